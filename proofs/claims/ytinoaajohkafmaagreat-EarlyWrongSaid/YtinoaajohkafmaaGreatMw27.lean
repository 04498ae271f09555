/-
  Texts of this seat in build order: RpTry, RpTrA, RpIf.
-/
import Derived.Test.YtinoaajohkafmaaGreatMw21
import Derived.Test.YtinoaajohkafmaaGreatMw22
/-
  The reference's parser: try.
-/
namespace Go.Proofs.YtinoaajohkafmaaGreat.Rp
open Go Go.RowKit Go.Proofs.YtinoaajohkafmaaGreat.Uni Go.Proofs.YtinoaajohkafmaaGreat.Pa
open Go.Proofs.YtinoaajohkafmaaGreat.Lx
set_option linter.unusedVariables false
set_option linter.unusedSimpArgs false
attribute [local go_sem ↓] ldK stK alK bdK bsK ldN stN alN bdN bsN
attribute [local irreducible] kcs ncs ncells
attribute [local go_sem] run_alK run_bdK0 run_bdKs run_bdKn run_bdKe run_bsK run_fdK0 run_fdK1 run_fdK2 run_fdK3 run_fdN4 run_alN run_stNg run_ldNg run_bdN0 run_bdN04 run_bdN02 run_bdN01 run_bdN024 run_bdN03 run_bdN0234 run_bsN1 run_bsN2 run_bsN3
theorem wpList_app {P : Program} {w w' : World} {ops : Array Oper} {rest : List Oper} {o : Oper} {a : Act} {Q : Exit → Act → World → Prop} (hgd : o.guard = none) (s x : Operand) (t : TypeId)
    (ho : o.op = .call { callee := .builtin .append, args := #[s, x], argTypes := #[t, t] }) (ht : o.type = t) (v1 v2 v' : Value) (hs : a.eval s = v1) (hx : a.eval x = v2) (hr : (Builtin.append_ #[t, t] t #[v1, v2]).run P w = .ok v' w') (h : wpList P ops Q rest (a.put o.dst v') w') : wpList P ops Q (o :: rest) a w := by
  refine wpList_plain hgd fun K hK => ?_
  subst ht
  unfold Oper.wp execOp
  simp only [ho, resolve, invoke, builtin, Sem.run_bind, Sem.run_pure, Result.andThen_ok, List.map_toArray, List.map_cons, List.map_nil, hs, hx, hr]
  exact hK _ _ h
theorem PostSgc {S : Nat → Prop} {g d : Nat} {w w' : World} {R : Tree × PS} {e : Ending} (h : PostS S g d w R e w') : GB g w w' := by
  obtain ⟨_, _, _, _, hg⟩ := h
  exact hg
theorem size_set9 (w : World) (o : Obj) (a : Addr) (v : Value) : ((w.alloc o).setCell a v).heap.size = w.heap.size + 1 := by simp
theorem bits01 : bits .or .i64 0 1 = 1 := by decide +kernel
theorem bits02 : bits .or .i64 0 2 = 2 := by decide +kernel
theorem bits12 : bits .or .i64 1 2 = 3 := by decide +kernel
set_option maxRecDepth 100000 in
set_option maxHeartbeats 4000000 in
theorem one_blk (N : Nd) (w : World) (k : Int) :
    Calls Tryz.prog 83 #[.int .i64 k, .agg (ncs N)] w fun e w' => e = .returned (.agg (ncs ⟨k, 0, noS, nilSl, ⟨some ⟨w.heap.size + 1 + 1, 0, none⟩, 1, 1⟩⟩)) ∧ Below w.heap.size w w' ∧ Blk w' (w.heap.size + 1 + 1) (ncells [N]).toArray 25 := by
  have l1 := run_ldN ((Blk.new w (ncs N) 25).old (.cells (ncs zeroN) 25))
  have b2 := (blk_2 w (ncs N) (ncs zeroN) 25 25).old (.cells (ncells [N]).toArray 25)
  have s2 := fun M : Nd => run_stN (t := M) b2
  have b3 : Blk (((w.alloc (.cells (ncs N) 25)).alloc (.cells (ncs zeroN) 25)).alloc (.cells (ncells [N]).toArray 25)) (w.heap.size + 1 + 1) (ncells [N]).toArray 25 := by
    have := blk_3 w (ncs N) (ncs zeroN) (ncells [N]).toArray 25 25 25
    exact this
  have HB2 := Lib.hid b2
  have HB3 := Lib.hid b3
  clear b2 b3
  go_enter Tryz.func83, Tryz.ntmps83
  go_wp2
  exact bodyPost_ret (res_N rfl _ _ (w.heap.size + 1) _ rfl (HB2.out.row _)) rfl ⟨rfl, below_row (bl_alloc (bl_alloc bel1)) _ (by omega), HB3.out.row_other _ (by omega)⟩
theorem one_grow {g d : Nat} {s : PS} {S0 : Nat → Prop} {w0 W w' : World} {bs : List (Nat × Nd)} {vs : List (Tree × Nd)} (E : Env g d s S0 w0 W bs vs) {T : Tree} {N : Nd} (hT : (T, N) ∈ vs) (hb : Below W.heap.size W w') (hk : Blk w' (W.heap.size + 1 + 1) (ncells [N]).toArray 25) : GrowX (Own S0 w0.heap.size (bs.map Prod.fst)) w0.heap.size w' [T] [N] (.slice (some ⟨W.heap.size + 1 + 1, 0, none⟩) 1 1) := by
  have hs := E.size
  refine ⟨⟨by rw [ncells_len]; rfl, .inr ⟨_, 1, _, rfl, Nat.zero_le _, hk, Nat.le_refl _, by unfold maxLen; omega, by rw [List.size_toArray, ncells_len]; rfl, by rw [List.take_of_length_le]; rw [ncells_len]; exact Nat.le_refl _⟩⟩, fun b hb2 => ?_, ?_⟩
  · simp [Value.ownBlock] at hb2
    rw [← hb2]
    exact ⟨by omega, E.lift (by omega)⟩
  · unfold Reps
    exact ⟨Rep.keep (fun b hb2 hS => ⟨⟨hS, by simp [Value.ownBlock]; omega⟩, hb.block b hb2⟩) _ _ (E.rp _ hT), by unfold Reps; trivial⟩
theorem call_sep {g d : Nat} {s : PS} {S0 : Nat → Prop} {w0 W : World} {bs : List (Nat × Nd)} {vs : List (Tree × Nd)} (E : Env g d s S0 w0 W bs vs) {ts : List Tree} {xs : List Nd} {v : Value} (G : GrowX (Own S0 w0.heap.size (bs.map Prod.fst)) w0.heap.size W ts xs v) {d' : Nat} {R : Tree × PS} {e : Ending} {w5 : World} (hp : PostN g d' W R e w5) :
    ∃ N, e = .returned (.agg (ncs N)) ∧ Env g d' R.2 S0 w0 w5 bs ((R.1, N) :: vs) ∧ GrowX (Own S0 w0.heap.size (bs.map Prod.fst)) w0.heap.size w5 ts xs v ∧ Rep (fun b => Own S0 w0.heap.size (bs.map Prod.fst) b ∧ some b ≠ v.ownBlock) w5 R.1 N := by
  have hlt : ∀ b, v.ownBlock = some b → b < W.heap.size := fun b hb => (G.own.lt b hb).2
  obtain ⟨N, he, hr, ha, hg⟩ := hp
  refine ⟨N, he, (E.frame ha hg).add (Rep.keep (fun b hb hS2 => ⟨?_, rfl⟩) _ _ hr), growx_gb G E hg, Rep.keep (fun b hb hS => ?_) _ _ hr⟩
  · rcases hS2 with hS2 | hS2
    · exact hS2.elim
    · exact E.lift hS2
  · rcases hS with hS | hS
    · exact hS.elim
    · exact ⟨⟨E.lift hS, fun e => by have := hlt b e.symm; omega⟩, rfl⟩
theorem sep_kid {S : Nat → Prop} {W : World} {T : Tree} {N : Nd} (h : Rep S W T N) (hS : S W.heap.size) (k n : Int) (t : ByteArray) : Rep S (W.alloc (.cells (ncells [N]).toArray 25)) (.mk k n t [] [T]) ⟨k, n, t, nilSl, newSl W.heap.size 1⟩ :=
  Rep.of (xs := [N]) (Row.new W [N] 1 rfl (by unfold maxLen; omega) hS) (by unfold Reps; exact ⟨Rep.keep (fun b hb hS => ⟨hS, heap_alloc_old _ _ hb⟩) _ _ h, by unfold Reps; trivial⟩)
theorem sep_cell {S0 : Nat → Prop} {lo : Nat} {W : World} {bs bs' : List (Nat × Nd)} {v : Value} {T : Tree} {N : Nd} (h : Rep (fun b => Own S0 lo (bs.map Prod.fst) b ∧ some b ≠ v.ownBlock) W T N) (i : Nat) {b : Nat} {o : Nd} (hi : bs[i]? = some (b, o)) (j : Nat) (u : Value) (hb : bs'.map Prod.fst = bs.map Prod.fst) : Rep (fun b => Own S0 lo (bs'.map Prod.fst) b ∧ some b ≠ v.ownBlock) (W.setCell ⟨b, j, none⟩ u) T N := by
  rw [hb]
  exact Rep.keep (fun c hc hS => ⟨hS, heap_setCell_other W ⟨b, j, none⟩ c u (fun e => hS.1.2 (List.mem_map.2 ⟨_, List.mem_of_getElem? hi, e.symm⟩))⟩) _ _ h
set_option maxRecDepth 100000 in
set_option maxHeartbeats 4000000 in
theorem try_3 {d : Nat} {L : Low} (hL : LowC d L) {g : Nat} {s : PS} {w : World} (h : At g d s w) {A : Tree × PS} (hA : blockF L s = A) (k1 : seesF ⟨#[99, 97, 116, 99, 104]⟩ A.2 = true) {X : ByteArray × PS} {Y : Tree × PS} (hX : nameF (needsF ⟨#[40]⟩ A.2.take) = X) (hY : blockF L (needsF ⟨#[41]⟩ X.2) = Y) (k2 : seesF ⟨#[102, 105, 110, 97, 108, 108, 121]⟩ Y.2 = true) {Z : Tree × PS} (hZ : blockF L Y.2.take = Z) :
    Calls Tryz.prog 86 #[.pointer (some ⟨g, 0, none⟩)] w (PostN g d w (.mk 38 3 noS [] [A.1, .mk 39 0 X.1 [] [Y.1], Z.1], Z.2)) := by
  have E0 := (Env.start h).new zeroN
  have c1 := block_any hL E0.at_
  rw [hA] at c1
  have b01 := bits01
  have b02 := bits02
  have b12 := bits12
  have HE0 := Lib.hid E0
  have HK1 := Lib.hid k1
  have HK2 := Lib.hid k2
  have HX := Lib.hid hX
  have HY := Lib.hid hY
  have HZ := Lib.hid hZ
  clear E0 h hA k1 k2 hX hY hZ
  go_enter Tryz.func86, Tryz.ntmps86
  go_wp2_with (first | (go_at_call 87; (with_reducible refine c1.mono ?_); intro e w1 hp; obtain ⟨N1, rfl, E1⟩ := HE0.out.callN hp; have c2 := one_blk N1 w1 38; have HE1 := Lib.hid E1; clear hp E1) | (go_at_call 83; (with_reducible refine c2.mono ?_); rintro e w2 ⟨rfl, hb, hk⟩; have G2 := one_grow HE1.out List.mem_cons_self hb hk; have E2 := (HE1.out.callB hb).new ⟨38, 0, noS, nilSl, ⟨some ⟨w1.heap.size + 1 + 1, 0, none⟩, 1, 1⟩⟩; have G3 := G2.local ⟨38, 0, noS, nilSl, ⟨some ⟨w1.heap.size + 1 + 1, 0, none⟩, 1, 1⟩⟩ (b := w2.heap.size) rfl; have c3 := take_t E2.at_ HK1.out; have HE2 := Lib.hid E2; have HG2 := Lib.hid G3; clear hb hk E2 G2 G3) | (go_at_call 79; (with_reducible refine c3.mono ?_); intro e w3 hp; have G3 := growx_gb HG2.out HE2.out hp.2.2; obtain ⟨rfl, E3⟩ := HE2.out.call hp; have m3 := E3.c1 0 rfl; have fm3 := E3.fz 0 rfl 1; have G4 := growx_cell G3 0 rfl 1 (.int .i64 1) (bs' := [(w2.heap.size, ⟨38, 1, noS, nilSl, ⟨some ⟨w1.heap.size + 1 + 1, 0, none⟩, 1, 1⟩⟩), (w.heap.size, zeroN)]) rfl; have E4 := E3.set1 0 rfl 1; have c4 := want_any E4.at_ ⟨#[40]⟩; have HE4 := Lib.hid E4; have HG4 := Lib.hid G4; clear hp E3 E4 G3 G4) | (go_at_call 82; (with_reducible refine c4.mono ?_); intro e w5 hp; have G5 := growx_gb HG4.out HE4.out hp.2.2; obtain ⟨rfl, E5⟩ := HE4.out.call hp; have c5 := name_any E5.at_; rw [HX.out] at c5; have HE5 := Lib.hid E5; have HG5 := Lib.hid G5; clear hp E5 G5) | (go_at_call 80; (with_reducible refine c5.mono ?_); intro e w6 hp; have G6 := growx_gb HG5.out HE5.out hp.2.2; obtain ⟨rfl, E6⟩ := HE5.out.call hp; have G7 := G6.local ⟨39, 0, X.1, nilSl, nilSl⟩ (b := w6.heap.size) rfl; have E7 := E6.new ⟨39, 0, X.1, nilSl, nilSl⟩; have c7 := want_any E7.at_ ⟨#[41]⟩; have HE7 := Lib.hid E7; have HG7 := Lib.hid G7; clear hp E6 E7 G6 G7) | (go_at_call 82; (with_reducible refine c7.mono ?_); intro e w8 hp; have G8 := growx_gb HG7.out HE7.out hp.2.2; obtain ⟨rfl, E8⟩ := HE7.out.call hp; have c8 := block_any hL E8.at_; rw [HY.out] at c8; have HE8 := Lib.hid E8; have HG8 := Lib.hid G8; clear hp E8 G8) | (go_at_call 87; (with_reducible refine c8.mono ?_); intro e w9 hp; have hlt8 := HG8.out.own.lt (w1.heap.size + 1 + 1) rfl; have hsz9 := (PostSgc hp).size; obtain ⟨N9, rfl, E9, G9, R9⟩ := call_sep HE8.out HG8.out hp; have R10 := sep_kid R9 ⟨E9.own_new, by simp [Value.ownBlock]; omega⟩ 39 0 X.1; have E10 := E9.kids1 List.mem_cons_self 39 0 X.1; have G10 := G9.alloc (.cells (ncells [N9]).toArray 25); have fa := E10.fz 0 rfl 4; have da := E10.c4 0 rfl; have E11 := E10.set4 0 rfl (some ⟨w9.heap.size, 0, none⟩) 1 1; have G11 := growx_cell G10 0 rfl 4 (.slice (some ⟨w9.heap.size, 0, none⟩) 1 1) (bs' := [(w6.heap.size, ⟨39, 0, X.1, nilSl, ⟨some ⟨w9.heap.size, 0, none⟩, 1, 1⟩⟩), (w2.heap.size, ⟨38, 1, noS, nilSl, ⟨some ⟨w1.heap.size + 1 + 1, 0, none⟩, 1, 1⟩⟩), (w.heap.size, zeroN)]) rfl; have R11 := sep_cell R10 0 rfl 4 (.slice (some ⟨w9.heap.size, 0, none⟩) 1 1) (bs' := [(w6.heap.size, ⟨39, 0, X.1, nilSl, ⟨some ⟨w9.heap.size, 0, none⟩, 1, 1⟩⟩), (w2.heap.size, ⟨38, 1, noS, nilSl, ⟨some ⟨w1.heap.size + 1 + 1, 0, none⟩, 1, 1⟩⟩), (w.heap.size, zeroN)]) rfl; have d11 : ((w9.alloc (.cells (ncells [N9]).toArray 25)).setCell ⟨w6.heap.size, 4, none⟩ (.slice (some ⟨w9.heap.size, 0, none⟩) 1 1)).cell? ⟨w2.heap.size, 4, none⟩ = some (.slice (some ⟨w1.heap.size + 1 + 1, 0, none⟩) 1 1) := E11.c4 1 rfl; have l11 : (Ld 25 (.pointer (some ⟨w6.heap.size, 0, none⟩))).run Tryz.prog ((w9.alloc (.cells (ncells [N9]).toArray 25)).setCell ⟨w6.heap.size, 4, none⟩ (.slice (some ⟨w9.heap.size, 0, none⟩) 1 1)) = .ok (.agg (ncs ⟨39, 0, X.1, nilSl, ⟨some ⟨w9.heap.size, 0, none⟩, 1, 1⟩⟩)) ((w9.alloc (.cells (ncells [N9]).toArray 25)).setCell ⟨w6.heap.size, 4, none⟩ (.slice (some ⟨w9.heap.size, 0, none⟩) 1 1)) := E11.ld 0 rfl; obtain ⟨a12, n12, cc12, u12, hrun, E12, G12⟩ := app_one E11 G11 R11 (by simp); rw [size_set9] at hrun; have f12 := E12.fz 1 rfl 4; have d12 := E12.c4 1 rfl; have E13 := E12.set4 1 rfl a12 n12 cc12; have G13 := growx_cell G12 1 rfl 4 (.slice a12 n12 cc12) (bs' := [(w6.heap.size, ⟨39, 0, X.1, nilSl, ⟨some ⟨w9.heap.size, 0, none⟩, 1, 1⟩⟩), (w2.heap.size, ⟨38, 1, noS, nilSl, ⟨a12, n12, cc12⟩⟩), (w.heap.size, zeroN)]) rfl; have c13 := take_t E13.at_ HK2.out; have HE13 := Lib.hid E13; have HG13 := Lib.hid G13; clear hp E9 G9 R9 R10 E10 G10 E11 G11 R11 E12 G12 E13 G13) | (at_builtin; refine wpList_app rfl _ _ 23 rfl rfl (.slice (some ⟨w1.heap.size + 1 + 1, 0, none⟩) 1 1) (.slice (some ⟨w9.heap.size + 1, 0, none⟩) 1 1) _ rfl rfl hrun ?_) | (go_at_call 79; (with_reducible refine c13.mono ?_); intro e w14 hp; have G14 := growx_gb HG13.out HE13.out hp.2.2; obtain ⟨rfl, E14⟩ := HE13.out.call hp; have m14 := E14.c1 1 rfl; have fm14 := E14.fz 1 rfl 1; have G15 := growx_drew (growx_cell G14 1 rfl 1 (.int .i64 3) (bs' := [(w6.heap.size, ⟨39, 0, X.1, nilSl, ⟨some ⟨w9.heap.size, 0, none⟩, 1, 1⟩⟩), (w2.heap.size, ⟨38, 3, noS, nilSl, ⟨a12, n12, cc12⟩⟩), (w.heap.size, zeroN)]) rfl); have E15 := (E14.set1 1 rfl 3).drew1; have d15 : (w14.setCell ⟨w2.heap.size, 1, none⟩ (.int .i64 3)).drew.cell? ⟨w2.heap.size, 4, none⟩ = some (.slice a12 n12 cc12) := E15.c4 1 rfl; have c15 := block_any hL E15.at_; rw [HZ.out] at c15; have HE15 := Lib.hid E15; have HG15 := Lib.hid G15; clear hp E14 E15 G14 G15))
  go_region_law (first | (go_simp; go_at_call 87; (with_reducible refine c15.mono ?_); intro e v6 hp; obtain ⟨N6, a6, n6, cc6, u6, rfl, E5, hrun6, E6, G6⟩ := app_facts HE15.out HG15.out hp (by simp); have d5 : v6.cell? ⟨w2.heap.size, 4, none⟩ = some (.slice a12 n12 cc12) := E5.c4 1 rfl; have d5a : ∀ o, (v6.alloc o).cell? ⟨w2.heap.size, 4, none⟩ = some (.slice a12 n12 cc12) := fun o => (E5.alloc o).c4 1 rfl; have f6 := E6.fz 1 rfl 4; have d6 := E6.c4 1 rfl; have E7 := (E6.ofGrow G6 38 3 noS).set4 1 rfl a6 n6 cc6; have m7 := E7.c1 1 rfl; have l7 := E7.ld 1 rfl; have s7 := E7.sto 2 rfl; have HE7 := Lib.hid E7; clear hp E5 E6 G6 E7; dsimp only) | (refine step_app rfl (.tmp 38) (.tmp 41) 23 rfl rfl _ _ _ (by simp [Act.eval, Act.put]) (by simp [Act.eval, Act.put]) hrun6 ?_))
  all_goals go_wp2
  all_goals exact ((HE7.out.store 2 rfl _).fin (List.mem_cons_of_mem _ (List.mem_cons_of_mem _ List.mem_cons_self)) List.mem_cons_self rfl rfl)
set_option maxRecDepth 100000 in
set_option maxHeartbeats 4000000 in
theorem try_1 {d : Nat} {L : Low} (hL : LowC d L) {g : Nat} {s : PS} {w : World} (h : At g d s w) {A : Tree × PS} (hA : blockF L s = A) (k1 : seesF ⟨#[99, 97, 116, 99, 104]⟩ A.2 = true) {X : ByteArray × PS} {Y : Tree × PS} (hX : nameF (needsF ⟨#[40]⟩ A.2.take) = X) (hY : blockF L (needsF ⟨#[41]⟩ X.2) = Y) (k2 : seesF ⟨#[102, 105, 110, 97, 108, 108, 121]⟩ Y.2 = false) :
    Calls Tryz.prog 86 #[.pointer (some ⟨g, 0, none⟩)] w (PostN g d w (.mk 38 1 noS [] [A.1, .mk 39 0 X.1 [] [Y.1]], Y.2)) := by
  have E0 := (Env.start h).new zeroN
  have c1 := block_any hL E0.at_
  rw [hA] at c1
  have b01 := bits01
  have b02 := bits02
  have b12 := bits12
  have HE0 := Lib.hid E0
  have HK1 := Lib.hid k1
  have HK2 := Lib.hid k2
  have HX := Lib.hid hX
  have HY := Lib.hid hY
  clear E0 h hA k1 k2 hX hY
  go_enter Tryz.func86, Tryz.ntmps86
  go_wp2_with (first | (go_at_call 87; (with_reducible refine c1.mono ?_); intro e w1 hp; obtain ⟨N1, rfl, E1⟩ := HE0.out.callN hp; have c2 := one_blk N1 w1 38; have HE1 := Lib.hid E1; clear hp E1) | (go_at_call 83; (with_reducible refine c2.mono ?_); rintro e w2 ⟨rfl, hb, hk⟩; have G2 := one_grow HE1.out List.mem_cons_self hb hk; have E2 := (HE1.out.callB hb).new ⟨38, 0, noS, nilSl, ⟨some ⟨w1.heap.size + 1 + 1, 0, none⟩, 1, 1⟩⟩; have G3 := G2.local ⟨38, 0, noS, nilSl, ⟨some ⟨w1.heap.size + 1 + 1, 0, none⟩, 1, 1⟩⟩ (b := w2.heap.size) rfl; have c3 := take_t E2.at_ HK1.out; have HE2 := Lib.hid E2; have HG2 := Lib.hid G3; clear hb hk E2 G2 G3) | (go_at_call 79; (with_reducible refine c3.mono ?_); intro e w3 hp; have G3 := growx_gb HG2.out HE2.out hp.2.2; obtain ⟨rfl, E3⟩ := HE2.out.call hp; have m3 := E3.c1 0 rfl; have fm3 := E3.fz 0 rfl 1; have G4 := growx_cell G3 0 rfl 1 (.int .i64 1) (bs' := [(w2.heap.size, ⟨38, 1, noS, nilSl, ⟨some ⟨w1.heap.size + 1 + 1, 0, none⟩, 1, 1⟩⟩), (w.heap.size, zeroN)]) rfl; have E4 := E3.set1 0 rfl 1; have c4 := want_any E4.at_ ⟨#[40]⟩; have HE4 := Lib.hid E4; have HG4 := Lib.hid G4; clear hp E3 E4 G3 G4) | (go_at_call 82; (with_reducible refine c4.mono ?_); intro e w5 hp; have G5 := growx_gb HG4.out HE4.out hp.2.2; obtain ⟨rfl, E5⟩ := HE4.out.call hp; have c5 := name_any E5.at_; rw [HX.out] at c5; have HE5 := Lib.hid E5; have HG5 := Lib.hid G5; clear hp E5 G5) | (go_at_call 80; (with_reducible refine c5.mono ?_); intro e w6 hp; have G6 := growx_gb HG5.out HE5.out hp.2.2; obtain ⟨rfl, E6⟩ := HE5.out.call hp; have G7 := G6.local ⟨39, 0, X.1, nilSl, nilSl⟩ (b := w6.heap.size) rfl; have E7 := E6.new ⟨39, 0, X.1, nilSl, nilSl⟩; have c7 := want_any E7.at_ ⟨#[41]⟩; have HE7 := Lib.hid E7; have HG7 := Lib.hid G7; clear hp E6 E7 G6 G7) | (go_at_call 82; (with_reducible refine c7.mono ?_); intro e w8 hp; have G8 := growx_gb HG7.out HE7.out hp.2.2; obtain ⟨rfl, E8⟩ := HE7.out.call hp; have c8 := block_any hL E8.at_; rw [HY.out] at c8; have HE8 := Lib.hid E8; have HG8 := Lib.hid G8; clear hp E8 G8) | (go_at_call 87; (with_reducible refine c8.mono ?_); intro e w9 hp; have hlt8 := HG8.out.own.lt (w1.heap.size + 1 + 1) rfl; have hsz9 := (PostSgc hp).size; obtain ⟨N9, rfl, E9, G9, R9⟩ := call_sep HE8.out HG8.out hp; have R10 := sep_kid R9 ⟨E9.own_new, by simp [Value.ownBlock]; omega⟩ 39 0 X.1; have E10 := E9.kids1 List.mem_cons_self 39 0 X.1; have G10 := G9.alloc (.cells (ncells [N9]).toArray 25); have fa := E10.fz 0 rfl 4; have da := E10.c4 0 rfl; have E11 := E10.set4 0 rfl (some ⟨w9.heap.size, 0, none⟩) 1 1; have G11 := growx_cell G10 0 rfl 4 (.slice (some ⟨w9.heap.size, 0, none⟩) 1 1) (bs' := [(w6.heap.size, ⟨39, 0, X.1, nilSl, ⟨some ⟨w9.heap.size, 0, none⟩, 1, 1⟩⟩), (w2.heap.size, ⟨38, 1, noS, nilSl, ⟨some ⟨w1.heap.size + 1 + 1, 0, none⟩, 1, 1⟩⟩), (w.heap.size, zeroN)]) rfl; have R11 := sep_cell R10 0 rfl 4 (.slice (some ⟨w9.heap.size, 0, none⟩) 1 1) (bs' := [(w6.heap.size, ⟨39, 0, X.1, nilSl, ⟨some ⟨w9.heap.size, 0, none⟩, 1, 1⟩⟩), (w2.heap.size, ⟨38, 1, noS, nilSl, ⟨some ⟨w1.heap.size + 1 + 1, 0, none⟩, 1, 1⟩⟩), (w.heap.size, zeroN)]) rfl; have d11 : ((w9.alloc (.cells (ncells [N9]).toArray 25)).setCell ⟨w6.heap.size, 4, none⟩ (.slice (some ⟨w9.heap.size, 0, none⟩) 1 1)).cell? ⟨w2.heap.size, 4, none⟩ = some (.slice (some ⟨w1.heap.size + 1 + 1, 0, none⟩) 1 1) := E11.c4 1 rfl; have l11 : (Ld 25 (.pointer (some ⟨w6.heap.size, 0, none⟩))).run Tryz.prog ((w9.alloc (.cells (ncells [N9]).toArray 25)).setCell ⟨w6.heap.size, 4, none⟩ (.slice (some ⟨w9.heap.size, 0, none⟩) 1 1)) = .ok (.agg (ncs ⟨39, 0, X.1, nilSl, ⟨some ⟨w9.heap.size, 0, none⟩, 1, 1⟩⟩)) ((w9.alloc (.cells (ncells [N9]).toArray 25)).setCell ⟨w6.heap.size, 4, none⟩ (.slice (some ⟨w9.heap.size, 0, none⟩) 1 1)) := E11.ld 0 rfl; obtain ⟨a12, n12, cc12, u12, hrun, E12, G12⟩ := app_one E11 G11 R11 (by simp); rw [size_set9] at hrun; have f12 := E12.fz 1 rfl 4; have d12 := E12.c4 1 rfl; have E13 := E12.set4 1 rfl a12 n12 cc12; have G13 := growx_cell G12 1 rfl 4 (.slice a12 n12 cc12) (bs' := [(w6.heap.size, ⟨39, 0, X.1, nilSl, ⟨some ⟨w9.heap.size, 0, none⟩, 1, 1⟩⟩), (w2.heap.size, ⟨38, 1, noS, nilSl, ⟨a12, n12, cc12⟩⟩), (w.heap.size, zeroN)]) rfl; have c13 := take_f E13.at_ HK2.out; have HE13 := Lib.hid E13; have HG13 := Lib.hid G13; clear hp E9 G9 R9 R10 E10 G10 E11 G11 R11 E12 G12 E13 G13) | (at_builtin; refine wpList_app rfl _ _ 23 rfl rfl (.slice (some ⟨w1.heap.size + 1 + 1, 0, none⟩) 1 1) (.slice (some ⟨w9.heap.size + 1, 0, none⟩) 1 1) _ rfl rfl hrun ?_) | (go_at_call 79; (with_reducible refine c13.mono ?_); intro e w14 hp; have G14 := growx_gb HG13.out HE13.out hp.2.2; obtain ⟨rfl, E14⟩ := HE13.out.call hp; have E15 := E14.ofGrow G14 38 1 noS; have m15 := E15.c1 1 rfl; have l15 := E15.ld 1 rfl; have s15 := E15.sto 2 rfl; have HE15 := Lib.hid E15; clear hp E14 E15 G14))
  exact ((HE15.out.store 2 rfl _).fin (List.mem_cons_of_mem _ (List.mem_cons_of_mem _ List.mem_cons_self)) List.mem_cons_self rfl rfl)
set_option maxRecDepth 100000 in
set_option maxHeartbeats 4000000 in
theorem try_2 {d : Nat} {L : Low} (hL : LowC d L) {g : Nat} {s : PS} {w : World} (h : At g d s w) {A : Tree × PS} (hA : blockF L s = A) (k1 : seesF ⟨#[99, 97, 116, 99, 104]⟩ A.2 = false) (k2 : seesF ⟨#[102, 105, 110, 97, 108, 108, 121]⟩ A.2 = true) {Z : Tree × PS} (hZ : blockF L A.2.take = Z) :
    Calls Tryz.prog 86 #[.pointer (some ⟨g, 0, none⟩)] w (PostN g d w (.mk 38 2 noS [] [A.1, Z.1], Z.2)) := by
  have E0 := (Env.start h).new zeroN
  have c1 := block_any hL E0.at_
  rw [hA] at c1
  have b01 := bits01
  have b02 := bits02
  have b12 := bits12
  have HE0 := Lib.hid E0
  have HK1 := Lib.hid k1
  have HK2 := Lib.hid k2
  have HZ := Lib.hid hZ
  clear E0 h hA k1 k2 hZ
  go_enter Tryz.func86, Tryz.ntmps86
  go_wp2_with (first | (go_at_call 87; (with_reducible refine c1.mono ?_); intro e w1 hp; obtain ⟨N1, rfl, E1⟩ := HE0.out.callN hp; have c2 := one_blk N1 w1 38; have HE1 := Lib.hid E1; clear hp E1) | (go_at_call 83; (with_reducible refine c2.mono ?_); rintro e w2 ⟨rfl, hb, hk⟩; have G2 := one_grow HE1.out List.mem_cons_self hb hk; have E2 := (HE1.out.callB hb).new ⟨38, 0, noS, nilSl, ⟨some ⟨w1.heap.size + 1 + 1, 0, none⟩, 1, 1⟩⟩; have G3 := G2.local ⟨38, 0, noS, nilSl, ⟨some ⟨w1.heap.size + 1 + 1, 0, none⟩, 1, 1⟩⟩ (b := w2.heap.size) rfl; have c3 := take_f E2.at_ HK1.out; have HE2 := Lib.hid E2; have HG2 := Lib.hid G3; clear hb hk E2 G2 G3) | (go_at_call 79; (with_reducible refine c3.mono ?_); intro e w3 hp; have G3 := growx_gb HG2.out HE2.out hp.2.2; obtain ⟨rfl, E3⟩ := HE2.out.call hp; have c4 := take_t E3.at_ HK2.out; have HE3 := Lib.hid E3; have HG3 := Lib.hid G3; clear hp E3 G3) | (go_at_call 79; (with_reducible refine c4.mono ?_); intro e w4 hp; have G4 := growx_gb HG3.out HE3.out hp.2.2; obtain ⟨rfl, E4⟩ := HE3.out.call hp; have m4 := E4.c1 0 rfl; have fm4 := E4.fz 0 rfl 1; have G5 := growx_drew (growx_cell G4 0 rfl 1 (.int .i64 2) (bs' := [(w2.heap.size, ⟨38, 2, noS, nilSl, ⟨some ⟨w1.heap.size + 1 + 1, 0, none⟩, 1, 1⟩⟩), (w.heap.size, zeroN)]) rfl); have E5 := (E4.set1 0 rfl 2).drew1; have d5 : (w4.setCell ⟨w2.heap.size, 1, none⟩ (.int .i64 2)).drew.cell? ⟨w2.heap.size, 4, none⟩ = some (.slice (some ⟨w1.heap.size + 1 + 1, 0, none⟩) 1 1) := E5.c4 0 rfl; have c5 := block_any hL E5.at_; rw [HZ.out] at c5; have HE5 := Lib.hid E5; have HG5 := Lib.hid G5; clear hp E4 E5 G4 G5))
  go_region_law (first | (go_simp; go_at_call 87; (with_reducible refine c5.mono ?_); intro e v6 hp; obtain ⟨N6, a6, n6, cc6, u6, rfl, E5, hrun6, E6, G6⟩ := app_facts HE5.out HG5.out hp (by simp); have d5 : v6.cell? ⟨w2.heap.size, 4, none⟩ = some (.slice (some ⟨w1.heap.size + 1 + 1, 0, none⟩) 1 1) := E5.c4 0 rfl; have d5a : ∀ o, (v6.alloc o).cell? ⟨w2.heap.size, 4, none⟩ = some (.slice (some ⟨w1.heap.size + 1 + 1, 0, none⟩) 1 1) := fun o => (E5.alloc o).c4 0 rfl; have f6 := E6.fz 0 rfl 4; have d6 := E6.c4 0 rfl; have E7 := (E6.ofGrow G6 38 2 noS).set4 0 rfl a6 n6 cc6; have m7 := E7.c1 0 rfl; have l7 := E7.ld 0 rfl; have s7 := E7.sto 1 rfl; have HE7 := Lib.hid E7; clear hp E5 E6 G6 E7; dsimp only) | (refine step_app rfl (.tmp 38) (.tmp 41) 23 rfl rfl _ _ _ (by simp [Act.eval, Act.put]) (by simp [Act.eval, Act.put]) hrun6 ?_))
  all_goals go_wp2
  all_goals exact ((HE7.out.store 1 rfl _).fin (List.mem_cons_of_mem _ List.mem_cons_self) List.mem_cons_self rfl rfl)
set_option maxRecDepth 100000 in
set_option maxHeartbeats 4000000 in
theorem try_0 {d : Nat} {L : Low} (hL : LowC d L) {g : Nat} {s : PS} {w : World} (h : At g d s w) {A : Tree × PS} (hA : blockF L s = A) (k1 : seesF ⟨#[99, 97, 116, 99, 104]⟩ A.2 = false) (k2 : seesF ⟨#[102, 105, 110, 97, 108, 108, 121]⟩ A.2 = false) :
    Calls Tryz.prog 86 #[.pointer (some ⟨g, 0, none⟩)] w (PostN g d w (.mk 38 0 noS [] [A.1], A.2.fail 2)) := by
  have E0 := (Env.start h).new zeroN
  have c1 := block_any hL E0.at_
  rw [hA] at c1
  have b01 := bits01
  have b02 := bits02
  have b12 := bits12
  have HE0 := Lib.hid E0
  have HK1 := Lib.hid k1
  have HK2 := Lib.hid k2
  clear E0 h hA k1 k2
  go_enter Tryz.func86, Tryz.ntmps86
  go_wp2_with (first | (go_at_call 87; (with_reducible refine c1.mono ?_); intro e w1 hp; obtain ⟨N1, rfl, E1⟩ := HE0.out.callN hp; have c2 := one_blk N1 w1 38; have HE1 := Lib.hid E1; clear hp E1) | (go_at_call 83; (with_reducible refine c2.mono ?_); rintro e w2 ⟨rfl, hb, hk⟩; have G2 := one_grow HE1.out List.mem_cons_self hb hk; have E2 := (HE1.out.callB hb).new ⟨38, 0, noS, nilSl, ⟨some ⟨w1.heap.size + 1 + 1, 0, none⟩, 1, 1⟩⟩; have G3 := G2.local ⟨38, 0, noS, nilSl, ⟨some ⟨w1.heap.size + 1 + 1, 0, none⟩, 1, 1⟩⟩ (b := w2.heap.size) rfl; have c3 := take_f E2.at_ HK1.out; have HE2 := Lib.hid E2; have HG2 := Lib.hid G3; clear hb hk E2 G2 G3) | (go_at_call 79; (with_reducible refine c3.mono ?_); intro e w3 hp; have G3 := growx_gb HG2.out HE2.out hp.2.2; obtain ⟨rfl, E3⟩ := HE2.out.call hp; have c4 := take_f E3.at_ HK2.out; have HE3 := Lib.hid E3; have HG3 := Lib.hid G3; clear hp E3 G3) | (go_at_call 79; (with_reducible refine c4.mono ?_); intro e w4 hp; have G4 := growx_gb HG3.out HE3.out hp.2.2; obtain ⟨rfl, E4⟩ := HE3.out.call hp; have m4 := E4.c1 0 rfl; have c5 := fail_any E4.at_ (e := 2) (by decide); have HE4 := Lib.hid E4; have HG4 := Lib.hid G4; clear hp E4 G4) | (go_at_call 78; (with_reducible refine c5.mono ?_); intro e w5 hp; have G5 := growx_gb HG4.out HE4.out hp.2.2; obtain ⟨rfl, E5⟩ := HE4.out.call hp; have E6 := E5.ofGrow G5 38 0 noS; have l6 := E6.ld 0 rfl; have s6 := E6.sto 1 rfl; have HE6 := Lib.hid E6; clear hp E5 E6 G5))
  exact ((HE6.out.store 1 rfl _).fin (List.mem_cons_of_mem _ List.mem_cons_self) List.mem_cons_self rfl rfl)
end Go.Proofs.YtinoaajohkafmaaGreat.Rp

/-
  The reference's parser: try, whatever follows.
-/
namespace Go.Proofs.YtinoaajohkafmaaGreat.Rp
open Go Go.RowKit Go.Proofs.YtinoaajohkafmaaGreat.Uni Go.Proofs.YtinoaajohkafmaaGreat.Pa
open Go.Proofs.YtinoaajohkafmaaGreat.Lx
set_option linter.unusedVariables false
theorem try_any {d : Nat} {L : Low} (hL : LowC d L) : TryC d L := fun {g s w} h => by
  cases k1 : seesF ⟨#[99, 97, 116, 99, 104]⟩ (blockF L s).2 with
  | false =>
    cases k2 : seesF ⟨#[102, 105, 110, 97, 108, 108, 121]⟩ (blockF L s).2 with
    | false =>
      have e : tryF L s = (.mk 38 0 noS [] [(blockF L s).1], (blockF L s).2.fail 2) := by
        unfold tryF
        simp only [k1, k2]
        simp
      rw [e]
      exact try_0 hL h rfl k1 k2
    | true =>
      have e : tryF L s = (.mk 38 2 noS [] [(blockF L s).1, (blockF L (blockF L s).2.take).1], (blockF L (blockF L s).2.take).2) := by
        unfold tryF
        simp only [k1, k2]
        simp
      rw [e]
      exact try_2 hL h rfl k1 k2 rfl
  | true =>
    cases k2 : seesF ⟨#[102, 105, 110, 97, 108, 108, 121]⟩ (handF L (blockF L s).2.take).2 with
    | false =>
      have e : tryF L s = (.mk 38 1 noS [] [(blockF L s).1, (handF L (blockF L s).2.take).1], (handF L (blockF L s).2.take).2) := by
        unfold tryF
        simp only [k1, k2]
        simp
      rw [e]
      exact try_1 hL h rfl k1 rfl rfl k2
    | true =>
      have e : tryF L s = (.mk 38 3 noS [] [(blockF L s).1, (handF L (blockF L s).2.take).1, (blockF L (handF L (blockF L s).2.take).2.take).1], (blockF L (handF L (blockF L s).2.take).2.take).2) := by
        unfold tryF
        simp only [k1, k2]
        simp
      rw [e]
      exact try_3 hL h rfl k1 rfl rfl k2 rfl
end Go.Proofs.YtinoaajohkafmaaGreat.Rp

/-
  The reference's parser: if.
-/
namespace Go.Proofs.YtinoaajohkafmaaGreat.Rp
open Go Go.RowKit Go.Proofs.YtinoaajohkafmaaGreat.Uni Go.Proofs.YtinoaajohkafmaaGreat.Pa
open Go.Proofs.YtinoaajohkafmaaGreat.Lx
set_option linter.unusedVariables false
set_option linter.unusedSimpArgs false
attribute [local go_sem ↓] ldK stK alK bdK bsK ldN stN alN bdN bsN
attribute [local irreducible] kcs ncs ncells
attribute [local go_sem] run_alK run_bdK0 run_bdKs run_bdKn run_bdKe run_bsK run_fdK0 run_fdK1 run_fdK2 run_fdK3 run_fdN4 run_alN run_stNg run_ldNg run_bdN0 run_bdN04 run_bdN02 run_bdN01 run_bdN024 run_bdN03 run_bdN0234 run_bsN1 run_bsN2 run_bsN3
attribute [local go_sem] run_bdNk
set_option maxRecDepth 100000 in
set_option maxHeartbeats 4000000 in
theorem in_if_t {d : Nat} {L : Low} (hL : LowC d L) {g : Nat} {s : PS} {w : World} (h : At g d s w) (hf : s.fault = 0) (hk : seesF ⟨#[105, 102]⟩ s = true) {X Y : Tree × PS} (hX : parenF L s.take = X) (hY : L.st X.2 = Y) (hq : seesF ⟨#[101, 108, 115, 101]⟩ Y.2 = true) {Z : Tree × PS} (hZ : L.st Y.2.take = Z) :
    Calls Tryz.prog 62 #[.pointer (some ⟨g, 0, none⟩)] w (PostN g d w (node 34 [X.1, Y.1, Z.1], Z.2)) := by
  have m0 := sees_one (y := ⟨#[108, 101, 116]⟩) hk (by decide)
  have m1 := sees_one (y := ⟨#[99, 111, 110, 115, 116]⟩) hk (by decide)
  have m2 := sees_one (y := ⟨#[102, 117, 110, 99, 116, 105, 111, 110]⟩) hk (by decide)
  have m3 := hk
  have E0 := (Env.start h).new zeroN
  have HX := Lib.hid hX
  have HY := Lib.hid hY
  have HQ := Lib.hid hq
  have HZ := Lib.hid hZ
  clear hX hY hq hZ
  have HM0 := Lib.hid m0
  have HM1 := Lib.hid m1
  have HM2 := Lib.hid m2
  have HM3 := Lib.hid m3
  have HF := Lib.hid hf
  have c1 := take_f E0.at_ HM0.out
  have HE0 := Lib.hid E0
  clear E0 h hf m0 m1 m2 m3 hk
  go_enter Tryz.func62, Tryz.ntmps62
  go_wp2_with (first | (go_at_call 79; (with_reducible refine c1.mono ?_); intro e w1 hp; obtain ⟨rfl, E1⟩ := HE0.out.call hp; have c2 := take_f E1.at_ HM1.out; have HE1 := Lib.hid E1; clear hp E1) | (go_at_call 79; (with_reducible refine c2.mono ?_); intro e w2 hp; obtain ⟨rfl, E2⟩ := HE1.out.call hp; have c3 := take_f E2.at_ HM2.out; have HE2 := Lib.hid E2; clear hp E2) | (go_at_call 79; (with_reducible refine c3.mono ?_); intro e w3 hp; obtain ⟨rfl, E3⟩ := HE2.out.call hp; have c4 := take_t E3.at_ HM3.out; have HE3 := Lib.hid E3; clear hp E3) | (go_at_call 79; (with_reducible refine c4.mono ?_); intro e w4 hp; obtain ⟨rfl, E4⟩ := HE3.out.call hp; have cb := paren_any hL E4.at_; rw [HX.out] at cb; have HE4 := Lib.hid E4; clear hp E4))
  go_wp2_with (go_at_call 85; (with_reducible refine cb.mono ?_); intro e wb hp; obtain ⟨NB, rfl, EB⟩ := HE4.out.callN hp; have sg := run_stNk (W := wb.alloc (.cells (ncells [NB]).toArray 25)) (b := wb.heap.size + 1) (by simp); have G0 := GrowX.new (m := 1) (ts := [X.1]) (xs := [NB]) (by unfold Reps; exact ⟨EB.rp _ List.mem_cons_self, by unfold Reps; trivial⟩) EB.own_new EB.size rfl (by omega); have G1 := growx_drew (G0.local (kidN 34 (newSl wb.heap.size 1)) (b := wb.heap.size + 1) (by simp)); have E1 := ((EB.kids1 List.mem_cons_self 34 0 noS).newAt (kidN 34 (newSl wb.heap.size 1)) (b := wb.heap.size + 1) (by simp)).drew1; have d4 : ((wb.alloc (.cells (ncells [NB]).toArray 25)).alloc (.cells (ncs (kidN 34 (newSl wb.heap.size 1))) 25)).drew.cell? ⟨wb.heap.size + 1, 4, none⟩ = some (.slice (some ⟨wb.heap.size, 0, none⟩) 1 1) := E1.c4 0 rfl; have fz4 := E1.fz 0 rfl; have cs := hL.st E1.at_; have HE1x := Lib.hid E1; have HG1x := Lib.hid G1; clear hp EB E1 G0 G1)
  go_region_law (first | (go_simp; go_at_call 38; (with_reducible refine cs.mono ?_); intro e v6 hp; rw [HY.out] at hp; obtain ⟨N6, a6, n6, cc6, u6w, rfl, E5, hrun6, E6, G6⟩ := app_facts HE1x.out HG1x.out hp (by simp); have d5 : v6.cell? ⟨wb.heap.size + 1, 4, none⟩ = some (.slice (some ⟨wb.heap.size, 0, none⟩) 1 1) := E5.c4 0 rfl; have d5a : ∀ o, (v6.alloc o).cell? ⟨wb.heap.size + 1, 4, none⟩ = some (.slice (some ⟨wb.heap.size, 0, none⟩) 1 1) := fun o => (E5.alloc o).c4 0 rfl; have f6 := E6.fz 0 rfl 4; have d6 := E6.c4 0 rfl; have E7 := (E6.ofGrow G6 34 0 noS).set4 0 rfl a6 n6 cc6; have G7 := growx_cell G6 0 rfl 4 (.slice a6 n6 cc6) (bs' := [(wb.heap.size + 1, ⟨34, 0, noS, nilSl, ⟨a6, n6, cc6⟩⟩), (w.heap.size, zeroN)]) rfl; have ce := take_t E7.at_ HQ.out; have HE7 := Lib.hid E7; have HG7 := Lib.hid G7; clear hp E5 E6 G6 E7 G7; dsimp only) | (refine step_app rfl (.tmp 56) (.tmp 59) 23 rfl rfl _ _ _ (by simp [Act.eval, Act.put]) (by simp [Act.eval, Act.put]) hrun6 ?_))
  all_goals go_wp2_with (go_at_call 79; (with_reducible refine ce.mono ?_); intro e we hp; have G8 := growx_gb HG7.out HE7.out hp.2.2; obtain ⟨rfl, E8⟩ := HE7.out.call hp; have E8 := E8.drew1; have d8 : we.drew.cell? ⟨wb.heap.size + 1, 4, none⟩ = some (.slice a6 n6 cc6) := E8.c4 0 rfl; have f8 := E8.fz 0 rfl; have cz := hL.st E8.at_; have HE8 := Lib.hid E8; have HG8 := Lib.hid (growx_drew G8); clear hp E8 G8)
  all_goals go_region_law (first | (go_simp; go_at_call 38; (with_reducible refine cz.mono ?_); intro e v16 hp; rw [HZ.out] at hp; obtain ⟨N16, a16, n16, cc16, u16w, rfl, E5, hrun16, E6, G6⟩ := app_facts HE8.out HG8.out hp (by simp); have d5 : v16.cell? ⟨wb.heap.size + 1, 4, none⟩ = some (.slice a6 n6 cc6) := E5.c4 0 rfl; have d5a : ∀ o, (v16.alloc o).cell? ⟨wb.heap.size + 1, 4, none⟩ = some (.slice a6 n6 cc6) := fun o => (E5.alloc o).c4 0 rfl; have f6 := E6.fz 0 rfl 4; have d6 := E6.c4 0 rfl; have E7 := (E6.ofGrow G6 34 0 noS).set4 0 rfl a16 n16 cc16; have G7 := growx_cell G6 0 rfl 4 (.slice a16 n16 cc16) (bs' := [(wb.heap.size + 1, ⟨34, 0, noS, nilSl, ⟨a16, n16, cc16⟩⟩), (w.heap.size, zeroN)]) rfl; have l17 := E7.ld 0 rfl; have s17 := E7.sto 1 rfl; have HE17 := Lib.hid E7; clear hp E5 E6 G6 E7 G7; dsimp only) | (refine step_app rfl (.tmp 65) (.tmp 68) 23 rfl rfl _ _ _ (by simp [Act.eval, Act.put]) (by simp [Act.eval, Act.put]) hrun16 ?_))
  all_goals go_wp2
  all_goals exact ((HE17.out.store 1 rfl _).fin (List.mem_cons_of_mem _ List.mem_cons_self) List.mem_cons_self rfl rfl)
set_option maxRecDepth 100000 in
set_option maxHeartbeats 4000000 in
theorem in_if_f {d : Nat} {L : Low} (hL : LowC d L) {g : Nat} {s : PS} {w : World} (h : At g d s w) (hf : s.fault = 0) (hk : seesF ⟨#[105, 102]⟩ s = true) {X Y : Tree × PS} (hX : parenF L s.take = X) (hY : L.st X.2 = Y) (hq : seesF ⟨#[101, 108, 115, 101]⟩ Y.2 = false) :
    Calls Tryz.prog 62 #[.pointer (some ⟨g, 0, none⟩)] w (PostN g d w (node 34 [X.1, Y.1], Y.2)) := by
  have m0 := sees_one (y := ⟨#[108, 101, 116]⟩) hk (by decide)
  have m1 := sees_one (y := ⟨#[99, 111, 110, 115, 116]⟩) hk (by decide)
  have m2 := sees_one (y := ⟨#[102, 117, 110, 99, 116, 105, 111, 110]⟩) hk (by decide)
  have m3 := hk
  have E0 := (Env.start h).new zeroN
  have HX := Lib.hid hX
  have HY := Lib.hid hY
  have HQ := Lib.hid hq
  clear hX hY hq
  have HM0 := Lib.hid m0
  have HM1 := Lib.hid m1
  have HM2 := Lib.hid m2
  have HM3 := Lib.hid m3
  have HF := Lib.hid hf
  have c1 := take_f E0.at_ HM0.out
  have HE0 := Lib.hid E0
  clear E0 h hf m0 m1 m2 m3 hk
  go_enter Tryz.func62, Tryz.ntmps62
  go_wp2_with (first | (go_at_call 79; (with_reducible refine c1.mono ?_); intro e w1 hp; obtain ⟨rfl, E1⟩ := HE0.out.call hp; have c2 := take_f E1.at_ HM1.out; have HE1 := Lib.hid E1; clear hp E1) | (go_at_call 79; (with_reducible refine c2.mono ?_); intro e w2 hp; obtain ⟨rfl, E2⟩ := HE1.out.call hp; have c3 := take_f E2.at_ HM2.out; have HE2 := Lib.hid E2; clear hp E2) | (go_at_call 79; (with_reducible refine c3.mono ?_); intro e w3 hp; obtain ⟨rfl, E3⟩ := HE2.out.call hp; have c4 := take_t E3.at_ HM3.out; have HE3 := Lib.hid E3; clear hp E3) | (go_at_call 79; (with_reducible refine c4.mono ?_); intro e w4 hp; obtain ⟨rfl, E4⟩ := HE3.out.call hp; have cb := paren_any hL E4.at_; rw [HX.out] at cb; have HE4 := Lib.hid E4; clear hp E4))
  go_wp2_with (go_at_call 85; (with_reducible refine cb.mono ?_); intro e wb hp; obtain ⟨NB, rfl, EB⟩ := HE4.out.callN hp; have sg := run_stNk (W := wb.alloc (.cells (ncells [NB]).toArray 25)) (b := wb.heap.size + 1) (by simp); have G0 := GrowX.new (m := 1) (ts := [X.1]) (xs := [NB]) (by unfold Reps; exact ⟨EB.rp _ List.mem_cons_self, by unfold Reps; trivial⟩) EB.own_new EB.size rfl (by omega); have G1 := growx_drew (G0.local (kidN 34 (newSl wb.heap.size 1)) (b := wb.heap.size + 1) (by simp)); have E1 := ((EB.kids1 List.mem_cons_self 34 0 noS).newAt (kidN 34 (newSl wb.heap.size 1)) (b := wb.heap.size + 1) (by simp)).drew1; have d4 : ((wb.alloc (.cells (ncells [NB]).toArray 25)).alloc (.cells (ncs (kidN 34 (newSl wb.heap.size 1))) 25)).drew.cell? ⟨wb.heap.size + 1, 4, none⟩ = some (.slice (some ⟨wb.heap.size, 0, none⟩) 1 1) := E1.c4 0 rfl; have fz4 := E1.fz 0 rfl; have cs := hL.st E1.at_; have HE1x := Lib.hid E1; have HG1x := Lib.hid G1; clear hp EB E1 G0 G1)
  go_region_law (first | (go_simp; go_at_call 38; (with_reducible refine cs.mono ?_); intro e v6 hp; rw [HY.out] at hp; obtain ⟨N6, a6, n6, cc6, u6w, rfl, E5, hrun6, E6, G6⟩ := app_facts HE1x.out HG1x.out hp (by simp); have d5 : v6.cell? ⟨wb.heap.size + 1, 4, none⟩ = some (.slice (some ⟨wb.heap.size, 0, none⟩) 1 1) := E5.c4 0 rfl; have d5a : ∀ o, (v6.alloc o).cell? ⟨wb.heap.size + 1, 4, none⟩ = some (.slice (some ⟨wb.heap.size, 0, none⟩) 1 1) := fun o => (E5.alloc o).c4 0 rfl; have f6 := E6.fz 0 rfl 4; have d6 := E6.c4 0 rfl; have E7 := (E6.ofGrow G6 34 0 noS).set4 0 rfl a6 n6 cc6; have G7 := growx_cell G6 0 rfl 4 (.slice a6 n6 cc6) (bs' := [(wb.heap.size + 1, ⟨34, 0, noS, nilSl, ⟨a6, n6, cc6⟩⟩), (w.heap.size, zeroN)]) rfl; have ce := take_f E7.at_ HQ.out; have HE7 := Lib.hid E7; have HG7 := Lib.hid G7; clear hp E5 E6 G6 E7 G7; dsimp only) | (refine step_app rfl (.tmp 56) (.tmp 59) 23 rfl rfl _ _ _ (by simp [Act.eval, Act.put]) (by simp [Act.eval, Act.put]) hrun6 ?_))
  all_goals go_wp2_with (go_at_call 79; (with_reducible refine ce.mono ?_); intro e we hp; obtain ⟨rfl, E8⟩ := HE7.out.call hp; have l8 := E8.ld 0 rfl; have s8 := E8.sto 1 rfl; have HE8 := Lib.hid E8; clear hp E8)
  all_goals exact ((HE8.out.store 1 rfl _).fin (List.mem_cons_of_mem _ List.mem_cons_self) List.mem_cons_self rfl rfl)
end Go.Proofs.YtinoaajohkafmaaGreat.Rp
