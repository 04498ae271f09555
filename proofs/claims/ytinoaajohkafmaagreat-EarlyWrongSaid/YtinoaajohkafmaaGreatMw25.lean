/-
  Texts of this seat in build order: RpPair, RpPaK, RpPaG, RpPaA.
-/
import Derived.Test.YtinoaajohkafmaaGreatMw24
/-
  The reference's parser: a pair.
-/
namespace Go.Proofs.YtinoaajohkafmaaGreat.Rp
open Go Go.RowKit Go.Proofs.YtinoaajohkafmaaGreat.Uni Go.Proofs.YtinoaajohkafmaaGreat.Pa
open Go.Proofs.YtinoaajohkafmaaGreat.Lx
set_option linter.unusedVariables false
set_option linter.unusedSimpArgs false
attribute [local go_sem ↓] ldK stK alK bdK bsK ldN stN alN bdN bsN
attribute [local irreducible] kcs ncs ncells
attribute [local go_sem] run_alK run_bdK0 run_bdKs run_bdKn run_bdKe run_bsK run_fdK0 run_fdK1 run_fdK2 run_fdK3 run_fdN4 run_alN run_stNg run_ldNg run_bdN0 run_bdN04 run_bdN02 run_bdN01 run_bdN024 run_bdN03 run_bdN0234 run_bsN1 run_bsN2 run_bsN3
attribute [local go_sem] run_stKg run_bdNk
set_option maxRecDepth 100000 in
set_option maxHeartbeats 4000000 in
theorem pair_br {d : Nat} {L : Low} (hL : LowC d L) {g : Nat} {s : PS} {w : World} (h : At g d s w) (hk : seesF ⟨#[91]⟩ s = true) {X Y : Tree × PS} (hX : L.ex s.take = X) (hY : L.ex (needsF ⟨#[58]⟩ (needsF ⟨#[93]⟩ X.2)) = Y) :
    Calls Tryz.prog 138 #[.pointer (some ⟨g, 0, none⟩)] w (PostN g d w (node 11 [X.1, Y.1], Y.2)) := by
  have E0 := (Env.start h).new zeroN
  have c1 := take_t E0.at_ hk
  have HE0 := Lib.hid E0
  have HX := Lib.hid hX
  have HY := Lib.hid hY
  clear E0 h hk hX hY
  go_enter Tryz.func138, Tryz.ntmps138
  go_wp2_with (first | (go_at_call 79; (with_reducible refine c1.mono ?_); intro e w1 hp; obtain ⟨rfl, E1⟩ := HE0.out.call hp; have c2 := hL.ex E1.at_; rw [HX.out] at c2; have HE1 := Lib.hid E1; clear hp E1) | (go_at_call 81; (with_reducible refine c2.mono ?_); intro e w2 hp; obtain ⟨N2, rfl, E2⟩ := HE1.out.callN hp; have E2 := E2.new N2; have c3 := want_any E2.at_ ⟨#[93]⟩; have HE2 := Lib.hid E2; clear hp E2) | (go_at_call 82; (with_reducible refine c3.mono ?_); intro e w3 hp; obtain ⟨rfl, E3⟩ := HE2.out.call hp; have c4 := want_any E3.at_ ⟨#[58]⟩; have HE3 := Lib.hid E3; clear hp E3) | (go_at_call 82; (with_reducible refine c4.mono ?_); intro e w4 hp; obtain ⟨rfl, E4⟩ := HE3.out.call hp; have E4 := E4.drew1; have l4 := E4.ld 0 rfl; have c5 := hL.ex E4.at_; rw [HY.out] at c5; have HE4 := Lib.hid E4; clear hp E4))
  go_region_with (first | (go_at_call 81; (with_reducible refine c5.mono ?_); intro e w5 hp; obtain ⟨N5, rfl, E5⟩ := HE4.out.callN hp; have l5 := E5.ld 0 rfl; have c6 := two_any (E5.rp _ (List.mem_cons_of_mem _ List.mem_cons_self)) (E5.rp _ List.mem_cons_self) 11 ⟨#[]⟩; have HE5 := Lib.hid E5; clear hp E5) | (go_at_call 105; (with_reducible refine c6.mono ?_); intro e w6 hp; obtain ⟨N6, rfl, E6⟩ := HE5.out.callO hp (fun b h => h); have s6 := E6.sto 1 rfl; have HE6 := Lib.hid E6; clear hp E6))
  all_goals go_wp2
  all_goals exact ((HE6.out.store 1 rfl _).fin (List.mem_cons_of_mem _ List.mem_cons_self) List.mem_cons_self rfl rfl)
end Go.Proofs.YtinoaajohkafmaaGreat.Rp

/-
  The reference's parser: a pair by its key.
-/
namespace Go.Proofs.YtinoaajohkafmaaGreat.Rp
open Go Go.RowKit Go.Proofs.YtinoaajohkafmaaGreat.Uni Go.Proofs.YtinoaajohkafmaaGreat.Pa
open Go.Proofs.YtinoaajohkafmaaGreat.Lx
set_option linter.unusedVariables false
set_option linter.unusedSimpArgs false
attribute [local go_sem ↓] ldK stK alK bdK bsK ldN stN alN bdN bsN
attribute [local irreducible] kcs ncs ncells
attribute [local go_sem] run_alK run_bdK0 run_bdKs run_bdKn run_bdKe run_bsK run_fdK0 run_fdK1 run_fdK2 run_fdK3 run_fdN4 run_alN run_stNg run_ldNg run_bdN0 run_bdN04 run_bdN02 run_bdN01 run_bdN024 run_bdN03 run_bdN0234 run_bsN1 run_bsN2 run_bsN3
attribute [local go_sem] run_stKg run_bdNk
theorem rg0 {w : World} {b off : Nat} {T : Tok} (h : w.rangeAt b off (kcs T).toList) : w.cell? ⟨b, off, none⟩ = some (.int .i64 T.kind) := by
  have := h 0 (.int .i64 T.kind) (by rw [Array.getElem?_toList]; exact kcs_0 T)
  simpa using this
theorem rg3 {w : World} {b off : Nat} {T : Tok} (h : w.rangeAt b off (kcs T).toList) : w.cell? ⟨b, off + 3, none⟩ = some (.string T.text) := h 3 (.string T.text) (by rw [Array.getElem?_toList]; exact kcs_3 T)
def accQ (s : PS) : Prop := (s.next.kind == 1) = true ∧ ((s.next.text.toList == [103, 101, 116]) = true ∨ ((s.next.text.toList == [103, 101, 116]) = false ∧ (s.next.text.toList == [115, 101, 116]) = true))
def colQ (s : PS) : Prop := (s.take.next.kind == 5) = true ∧ (s.take.next.text.toList == [58]) = true
def colN (s : PS) : Prop := (s.take.next.kind == 5) = false ∨ ((s.take.next.kind == 5) = true ∧ (s.take.next.text.toList == [58]) = false)
set_option maxRecDepth 100000 in
set_option maxHeartbeats 4000000 in
theorem pair_k1 {d : Nat} {L : Low} (hL : LowC d L) {g : Nat} {s : PS} {w : World} (h : At g d s w) (hf : s.fault = 0) (hb : seesF ⟨#[91]⟩ s = false) (q1 : (s.next.kind == 1) = false) {X : ByteArray × PS} {Y : Tree × PS} (hX : keyF s = X) (hY : L.ex (needsF ⟨#[58]⟩ X.2) = Y) :
    Calls Tryz.prog 138 #[.pointer (some ⟨g, 0, none⟩)] w (PostN g d w (node 11 [.mk 2 0 X.1 [] [], Y.1], Y.2)) := by
  have E0 := (Env.start h).new zeroN
  have c1 := take_f E0.at_ hb
  have HE0 := Lib.hid E0
  have HF := Lib.hid hf
  have HX := Lib.hid hX
  have HY := Lib.hid hY
  clear E0 h hb hf hX hY
  · (
    go_enter Tryz.func138, Tryz.ntmps138
    go_wp2_with (first | (go_at_call 79; (with_reducible refine c1.mono ?_); intro e w1 hp; obtain ⟨rfl, E1⟩ := HE0.out.call hp; have cn := now_any E1.at_ HF.out; have HE1 := Lib.hid E1; clear hp E1) | (go_at_call 36; (with_reducible refine cn.mono ?_); intro e w2 hp; obtain ⟨rfl, E2⟩ := HE1.out.callR hp; have t0 := ((Blk.new w2 (kcs s.next) 73).cell 0).trans (kcs_0 s.next); have t3 := ((Blk.new w2 (kcs s.next) 73).cell 3).trans (kcs_3 s.next); have st := run_stKg w2 w2.heap.size s.next zeroK rfl; have E3 := E2.alloc (.cells (kcs s.next) 73); have HE3 := Lib.hid E3; clear hp E2 E3))
    go_quiet (fail)
    have E4 := HE3.out.drew nq
    have c4 := key_any E4.at_
    rw [HX.out] at c4
    have HE4 := Lib.hid E4
    clear E4
    go_wp2_with (first | (go_at_call 139; (with_reducible refine c4.mono ?_); intro e w5 hp; obtain ⟨rfl, E5⟩ := HE4.out.call hp; have c5 := want_any E5.at_ ⟨#[58]⟩; have HE5 := Lib.hid E5; clear hp E5) | (go_at_call 82; (with_reducible refine c5.mono ?_); intro e w6 hp; obtain ⟨rfl, E6⟩ := HE5.out.call hp; have E6 := E6.leaf 2 0 X.1; have c6 := hL.ex E6.at_; rw [HY.out] at c6; have HE6 := Lib.hid E6; clear hp E6) | (go_at_call 81; (with_reducible refine c6.mono ?_); intro e w7 hp; obtain ⟨N7, rfl, E7⟩ := HE6.out.callN hp; have c7 := two_any (E7.rp _ (List.mem_cons_of_mem _ List.mem_cons_self)) (E7.rp _ List.mem_cons_self) 11 ⟨#[]⟩; have HE7 := Lib.hid E7; clear hp E7) | (go_at_call 105; (with_reducible refine c7.mono ?_); intro e w8 hp; obtain ⟨N8, rfl, E8⟩ := HE7.out.callO hp (fun b h => h); have s8 := E8.sto 0 rfl; have HE8 := Lib.hid E8; clear hp E8))
    exact ((HE8.out.store 0 rfl _).fin List.mem_cons_self List.mem_cons_self rfl rfl))
set_option maxRecDepth 100000 in
set_option maxHeartbeats 4000000 in
theorem pair_k2 {d : Nat} {L : Low} (hL : LowC d L) {g : Nat} {s : PS} {w : World} (h : At g d s w) (hf : s.fault = 0) (hb : seesF ⟨#[91]⟩ s = false) (q1 : (s.next.kind == 1) = true) (q2 : (s.next.text.toList == [103, 101, 116]) = false) (q3 : (s.next.text.toList == [115, 101, 116]) = false) {X : ByteArray × PS} {Y : Tree × PS} (hX : keyF s = X) (hY : L.ex (needsF ⟨#[58]⟩ X.2) = Y) :
    Calls Tryz.prog 138 #[.pointer (some ⟨g, 0, none⟩)] w (PostN g d w (node 11 [.mk 2 0 X.1 [] [], Y.1], Y.2)) := by
  have E0 := (Env.start h).new zeroN
  have c1 := take_f E0.at_ hb
  have HE0 := Lib.hid E0
  have HF := Lib.hid hf
  have HX := Lib.hid hX
  have HY := Lib.hid hY
  clear E0 h hb hf hX hY
  · (
    go_enter Tryz.func138, Tryz.ntmps138
    go_wp2_with (first | (go_at_call 79; (with_reducible refine c1.mono ?_); intro e w1 hp; obtain ⟨rfl, E1⟩ := HE0.out.call hp; have cn := now_any E1.at_ HF.out; have HE1 := Lib.hid E1; clear hp E1) | (go_at_call 36; (with_reducible refine cn.mono ?_); intro e w2 hp; obtain ⟨rfl, E2⟩ := HE1.out.callR hp; have t0 := ((Blk.new w2 (kcs s.next) 73).cell 0).trans (kcs_0 s.next); have t3 := ((Blk.new w2 (kcs s.next) 73).cell 3).trans (kcs_3 s.next); have st := run_stKg w2 w2.heap.size s.next zeroK rfl; have E3 := E2.alloc (.cells (kcs s.next) 73); have HE3 := Lib.hid E3; clear hp E2 E3))
    go_quiet (fail)
    have E4 := HE3.out.drew nq
    have c4 := key_any E4.at_
    rw [HX.out] at c4
    have HE4 := Lib.hid E4
    clear E4
    go_wp2_with (first | (go_at_call 139; (with_reducible refine c4.mono ?_); intro e w5 hp; obtain ⟨rfl, E5⟩ := HE4.out.call hp; have c5 := want_any E5.at_ ⟨#[58]⟩; have HE5 := Lib.hid E5; clear hp E5) | (go_at_call 82; (with_reducible refine c5.mono ?_); intro e w6 hp; obtain ⟨rfl, E6⟩ := HE5.out.call hp; have E6 := E6.leaf 2 0 X.1; have c6 := hL.ex E6.at_; rw [HY.out] at c6; have HE6 := Lib.hid E6; clear hp E6) | (go_at_call 81; (with_reducible refine c6.mono ?_); intro e w7 hp; obtain ⟨N7, rfl, E7⟩ := HE6.out.callN hp; have c7 := two_any (E7.rp _ (List.mem_cons_of_mem _ List.mem_cons_self)) (E7.rp _ List.mem_cons_self) 11 ⟨#[]⟩; have HE7 := Lib.hid E7; clear hp E7) | (go_at_call 105; (with_reducible refine c7.mono ?_); intro e w8 hp; obtain ⟨N8, rfl, E8⟩ := HE7.out.callO hp (fun b h => h); have s8 := E8.sto 0 rfl; have HE8 := Lib.hid E8; clear hp E8))
    exact ((HE8.out.store 0 rfl _).fin List.mem_cons_self List.mem_cons_self rfl rfl))
set_option maxRecDepth 100000 in
set_option maxHeartbeats 4000000 in
theorem pair_k3 {d : Nat} {L : Low} (hL : LowC d L) {g : Nat} {s : PS} {w : World} (h : At g d s w) (hf : s.fault = 0) (hb : seesF ⟨#[91]⟩ s = false) (qa : accQ s) (qc : colQ s) {X : ByteArray × PS} {Y : Tree × PS} (hX : keyF s = X) (hY : L.ex (needsF ⟨#[58]⟩ X.2) = Y) :
    Calls Tryz.prog 138 #[.pointer (some ⟨g, 0, none⟩)] w (PostN g d w (node 11 [.mk 2 0 X.1 [] [], Y.1], Y.2)) := by
  obtain ⟨q1, qg⟩ := qa
  obtain ⟨q5, q6⟩ := qc
  have hk2 : ¬ (s.next.kind = 0 ∨ s.next.kind = -1) := by
    have : s.next.kind = 1 := by simpa using q1
    omega
  have HK2 := Lib.hid hk2
  have E0 := (Env.start h).new zeroN
  have c1 := take_f E0.at_ hb
  have HE0 := Lib.hid E0
  have HF := Lib.hid hf
  have HX := Lib.hid hX
  have HY := Lib.hid hY
  clear E0 h hb hf hX hY hk2
  rcases qg with qg | ⟨qg, qs⟩
  all_goals (
    go_enter Tryz.func138, Tryz.ntmps138
    go_wp2_with (first | (go_at_call 79; (with_reducible refine c1.mono ?_); intro e w1 hp; obtain ⟨rfl, E1⟩ := HE0.out.call hp; have cn := now_any E1.at_ HF.out; have HE1 := Lib.hid E1; clear hp E1) | (go_at_call 36; (with_reducible refine cn.mono ?_); intro e w2 hp; obtain ⟨rfl, E2⟩ := HE1.out.callR hp; have t0 := ((Blk.new w2 (kcs s.next) 73).cell 0).trans (kcs_0 s.next); have t3 := ((Blk.new w2 (kcs s.next) 73).cell 3).trans (kcs_3 s.next); have st := run_stKg w2 w2.heap.size s.next zeroK rfl; have E3 := E2.alloc (.cells (kcs s.next) 73); obtain ⟨b, o, c, n, k, D, T, ho, hk1, hr, hw⟩ := E3.at_.opn2 HF.out HK2.out; have g0 := ho.c0; have g1 := ho.c1; have kn := ho.kn; have k5 := ho.n5; have n0 := rg0 hr; have n3 := rg3 hr; have hk1i : (k : Int) + 1 < (n : Int) := (by omega); clear ho hr hw; have HE3 := Lib.hid E3; clear hp E2 E3))
    go_quiet (fail)
    have E4 := HE3.out.drew nq
    have c4 := key_any E4.at_
    rw [HX.out] at c4
    have HE4 := Lib.hid E4
    clear E4
    go_wp2_with (first | (go_at_call 139; (with_reducible refine c4.mono ?_); intro e w5 hp; obtain ⟨rfl, E5⟩ := HE4.out.call hp; have c5 := want_any E5.at_ ⟨#[58]⟩; have HE5 := Lib.hid E5; clear hp E5) | (go_at_call 82; (with_reducible refine c5.mono ?_); intro e w6 hp; obtain ⟨rfl, E6⟩ := HE5.out.call hp; have E6 := E6.leaf 2 0 X.1; have c6 := hL.ex E6.at_; rw [HY.out] at c6; have HE6 := Lib.hid E6; clear hp E6) | (go_at_call 81; (with_reducible refine c6.mono ?_); intro e w7 hp; obtain ⟨N7, rfl, E7⟩ := HE6.out.callN hp; have c7 := two_any (E7.rp _ (List.mem_cons_of_mem _ List.mem_cons_self)) (E7.rp _ List.mem_cons_self) 11 ⟨#[]⟩; have HE7 := Lib.hid E7; clear hp E7) | (go_at_call 105; (with_reducible refine c7.mono ?_); intro e w8 hp; obtain ⟨N8, rfl, E8⟩ := HE7.out.callO hp (fun b h => h); have s8 := E8.sto 0 rfl; have HE8 := Lib.hid E8; clear hp E8))
    exact ((HE8.out.store 0 rfl _).fin List.mem_cons_self List.mem_cons_self rfl rfl))
end Go.Proofs.YtinoaajohkafmaaGreat.Rp

/-
  The reference's parser: getters and setters.
-/
namespace Go.Proofs.YtinoaajohkafmaaGreat.Rp
open Go Go.RowKit Go.Proofs.YtinoaajohkafmaaGreat.Uni Go.Proofs.YtinoaajohkafmaaGreat.Pa
open Go.Proofs.YtinoaajohkafmaaGreat.Lx
set_option linter.unusedVariables false
set_option linter.unusedSimpArgs false
attribute [local go_sem ↓] ldK stK alK bdK bsK ldN stN alN bdN bsN
attribute [local irreducible] kcs ncs ncells
attribute [local go_sem] run_alK run_bdK0 run_bdKs run_bdKn run_bdKe run_bsK run_fdK0 run_fdK1 run_fdK2 run_fdK3 run_fdN4 run_alN run_stNg run_ldNg run_bdN0 run_bdN04 run_bdN02 run_bdN01 run_bdN024 run_bdN03 run_bdN0234 run_bsN1 run_bsN2 run_bsN3
attribute [local go_sem ↓] bsS
attribute [local go_sem] run_bsS1 run_stKg run_bdNk
theorem gbC {g : Nat} {w w' : World} (h : GB g w w') {b i : Nat} {v : Value} (hb : w.cell? ⟨b, i, none⟩ = some v) (hne : b ≠ g) : w'.cell? ⟨b, i, none⟩ = some v := by
  have e := h.block b (World.block_lt_of_cell? w _ hb) (by simpa using hne)
  simp only [World.cell?, e] at hb ⊢
  exact hb
theorem cuP {w : World} {b i : Nat} {v : Value} (h : w.cell? ⟨b, i, none⟩ = some v) (o : Obj) : (w.alloc o).cell? ⟨b, i, none⟩ = some v := (World.cell?_alloc_past _ _ _ (World.block_lt_of_cell? w _ h)).trans h
theorem ncs_set0 (n : Nd) (k : Int) : (ncs n).setIfInBounds 0 (.int .i64 k) = ncs { n with kind := k } := by unfold ncs; rfl
theorem Env.set0 {g d : Nat} {s : PS} {S0 : Nat → Prop} {w0 W : World} {bs : List (Nat × Nd)} {vs : List (Tree × Nd)} (E : Env g d s S0 w0 W bs vs) (i : Nat) {b : Nat} {N : Nd} (hi : bs[i]? = some (b, N)) (k : Int) : Env g d s S0 w0 (W.setCell ⟨b, 0, none⟩ (.int .i64 k)) (bs.set i (b, { N with kind := k })) vs := by
  have hB : Blk W b (ncs N) 25 := (E.bl _ (List.mem_of_getElem? hi)).2
  rw [setCell_row hB, ncs_set0]
  exact E.store i hi _
theorem Env.str1 {g d : Nat} {s : PS} {S0 : Nat → Prop} {w0 W : World} {bs : List (Nat × Nd)} {vs : List (Tree × Nd)} (E : Env g d s S0 w0 W bs vs) (k n : Int) (t x : ByteArray) : Env g d s S0 w0 (W.alloc (.cells #[.string x] 9)) bs ((.mk k n t [x] [], ⟨k, n, t, newSl W.heap.size 1, nilSl⟩) :: vs) := by
  refine (E.alloc _).add ?_
  unfold Rep
  refine ⟨rfl, rfl, rfl, ⟨⟨rfl, .inr ⟨W.heap.size, 1, #[.string x], rfl, Nat.zero_le _, heap_alloc_new W _, Nat.le_refl _, by unfold maxLen; omega, rfl, rfl⟩⟩, fun b hb => ?_⟩, [], by rw [ncells_nil]; exact Row.nil _ _ _ _, by unfold Reps; trivial⟩
  simp [newSl, Sl.v, Value.ownBlock] at hb
  rw [← hb]
  exact E.own_new
set_option maxRecDepth 100000 in
set_option maxHeartbeats 4000000 in
theorem pair_getn {d : Nat} {L : Low} (hL : LowC d L) {g : Nat} {s : PS} {w : World} (h : At g d s w) (hf : s.fault = 0) (hb : seesF ⟨#[91]⟩ s = false) (q1 : (s.next.kind == 1) = true) (qg : (s.next.text.toList == [103, 101, 116]) = true) (qs : (s.next.text.toList == [115, 101, 116]) = false) (q5 : (s.take.next.kind == 5) = false) {X : ByteArray × PS} {Y : Tree × PS} (hX : keyF s.take = X) (hY : blockF L (needsF ⟨#[41]⟩ (needsF ⟨#[40]⟩ X.2)) = Y) :
    Calls Tryz.prog 138 #[.pointer (some ⟨g, 0, none⟩)] w (PostN g d w (.mk 12 0 X.1 [] [node 14 Y.1.kids], Y.2)) := by
  have hk2 : ¬ (s.next.kind = 0 ∨ s.next.kind = -1) := by
    have : s.next.kind = 1 := by simpa using q1
    omega
  have HK2 := Lib.hid hk2
  have hgl := h.lt
  have E0 := (Env.start h).new zeroN
  have c1 := take_f E0.at_ hb
  have HE0 := Lib.hid E0
  have HF := Lib.hid hf
  have HX := Lib.hid hX
  have HY := Lib.hid hY
  clear E0 h hb hf hX hY hk2
  go_enter Tryz.func138, Tryz.ntmps138
  go_wp2_with (first | (go_at_call 79; (with_reducible refine c1.mono ?_); intro e w1 hp; obtain ⟨rfl, E1⟩ := HE0.out.call hp; have cn := now_any E1.at_ HF.out; have HE1 := Lib.hid E1; clear hp E1) | (go_at_call 36; (with_reducible refine cn.mono ?_); intro e w2 hp; obtain ⟨rfl, E2⟩ := HE1.out.callR hp; have hsz2 := E2.size; have t0 := ((Blk.new w2 (kcs s.next) 73).cell 0).trans (kcs_0 s.next); have t3 := ((Blk.new w2 (kcs s.next) 73).cell 3).trans (kcs_3 s.next); have st := run_stKg w2 w2.heap.size s.next zeroK rfl; have E3 := E2.alloc (.cells (kcs s.next) 73); obtain ⟨b, o, c, n, k, D, T, ho, hk1, hr, hw⟩ := E3.at_.opn2 HF.out HK2.out; have g0 := ho.c0; have g1 := ho.c1; have kn := ho.kn; have k5 := ho.n5; have n0 := rg0 hr; have n3 := rg3 hr; have hk1i : (k : Int) + 1 < (n : Int) := (by omega); clear ho hr hw; have HE3 := Lib.hid E3; clear hp E2 E3))
  go_quiet (fail)
  have E4 := HE3.out.drew nq
  have t4 : ((w2.alloc (.cells (kcs s.next) 73)).drewN nq).cell? ⟨w2.heap.size, 3, none⟩ = some (.string s.next.text) := t3
  obtain ⟨k9, k95, a1, af, E5⟩ := E4.adv HK2.out
  have hne : w2.heap.size ≠ g := by omega
  have z5 : (((w2.alloc (.cells (kcs s.next) 73)).drewN nq).setCell ⟨g, 1, none⟩ (.int .i64 ((k9 : Int) + 1))).cell? ⟨w2.heap.size, 3, none⟩ = some (.string s.next.text) := by rw [World.cell?_setCell_other _ _ _ _ (by simp)]; exact t4
  have c6 := key_any E5.at_
  rw [HX.out] at c6
  have HE5 := Lib.hid E5
  clear E4 E5
  go_wp2_with (first | (go_at_call 139; (with_reducible refine c6.mono ?_); intro e w6 hp; have z6 := cuP (cuP (gbC hp.2.2 z5 hne) (.cells (ncs ⟨12, 0, X.1, nilSl, nilSl⟩) 25)) (.cells (ncs ⟨14, 0, noS, nilSl, nilSl⟩) 25); obtain ⟨rfl, E6⟩ := HE5.out.call hp; have E6 := (E6.new ⟨12, 0, X.1, nilSl, nilSl⟩).newAt ⟨14, 0, noS, nilSl, nilSl⟩ (b := w6.heap.size + 1) (by simp); have sg := run_stNk (W := w6.alloc (.cells (ncs ⟨12, 0, X.1, nilSl, nilSl⟩) 25)) (b := w6.heap.size + 1) (by simp); have c7 := want_any E6.at_ ⟨#[40]⟩; have HE6 := Lib.hid E6; clear hp E6) | (go_at_call 82; (with_reducible refine c7.mono ?_); intro e w7 hp; have z7 := gbC hp.2.2 z6 hne; obtain ⟨rfl, E7⟩ := HE6.out.call hp; have E9 := E7.leaf 14 0 noS; have c9 := want_any E9.at_ ⟨#[41]⟩; have HE9 := Lib.hid E9; clear hp E7 E9) | (go_at_call 82; (with_reducible refine c9.mono ?_); intro e wA hp; obtain ⟨rfl, EA⟩ := HE9.out.call hp; have cA := block_any hL EA.at_; rw [HY.out] at cA; have HEA := Lib.hid EA; clear hp EA) | (go_at_call 87; (with_reducible refine cA.mono ?_); intro e wB hp; obtain ⟨NB, rfl, EB⟩ := HEA.out.callN hp; have fB := EB.fz 0 rfl 4; have dB : wB.cell? ⟨w6.heap.size + 1, 4, none⟩ = some (.slice none 0 0) := EB.c4 0 rfl; have EC := (EB.funcN (List.mem_cons_of_mem _ List.mem_cons_self) List.mem_cons_self).set4 0 rfl NB.kids.a NB.kids.n NB.kids.c; have lC := EC.ld 0 rfl; have ED := EC.kids1 List.mem_cons_self 12 0 X.1; have fD := ED.fz 1 rfl 4; have dD := ED.c4 1 rfl; have ez : (wB.setCell ⟨w6.heap.size + 1, 4, none⟩ (.slice NB.kids.a NB.kids.n NB.kids.c)).heap.size = wB.heap.size := (by simp [World.setCell]); have EE := ED.set4 1 rfl (some ⟨wB.heap.size, 0, none⟩) 1 1; have lE := EE.ld 1 rfl; have sE := EE.sto 2 rfl; rw [ez] at EE; have HEE := Lib.hid EE; clear hp EB EC ED EE))
  exact ((HEE.out.store 2 rfl _).fin (List.mem_cons_of_mem _ (List.mem_cons_of_mem _ List.mem_cons_self)) List.mem_cons_self rfl rfl)
set_option maxRecDepth 100000 in
set_option maxHeartbeats 4000000 in
theorem pair_gett {d : Nat} {L : Low} (hL : LowC d L) {g : Nat} {s : PS} {w : World} (h : At g d s w) (hf : s.fault = 0) (hb : seesF ⟨#[91]⟩ s = false) (q1 : (s.next.kind == 1) = true) (qg : (s.next.text.toList == [103, 101, 116]) = true) (qs : (s.next.text.toList == [115, 101, 116]) = false) (q5 : (s.take.next.kind == 5) = true) (q6 : (s.take.next.text.toList == [58]) = false) {X : ByteArray × PS} {Y : Tree × PS} (hX : keyF s.take = X) (hY : blockF L (needsF ⟨#[41]⟩ (needsF ⟨#[40]⟩ X.2)) = Y) :
    Calls Tryz.prog 138 #[.pointer (some ⟨g, 0, none⟩)] w (PostN g d w (.mk 12 0 X.1 [] [node 14 Y.1.kids], Y.2)) := by
  have hk2 : ¬ (s.next.kind = 0 ∨ s.next.kind = -1) := by
    have : s.next.kind = 1 := by simpa using q1
    omega
  have HK2 := Lib.hid hk2
  have hgl := h.lt
  have E0 := (Env.start h).new zeroN
  have c1 := take_f E0.at_ hb
  have HE0 := Lib.hid E0
  have HF := Lib.hid hf
  have HX := Lib.hid hX
  have HY := Lib.hid hY
  clear E0 h hb hf hX hY hk2
  go_enter Tryz.func138, Tryz.ntmps138
  go_wp2_with (first | (go_at_call 79; (with_reducible refine c1.mono ?_); intro e w1 hp; obtain ⟨rfl, E1⟩ := HE0.out.call hp; have cn := now_any E1.at_ HF.out; have HE1 := Lib.hid E1; clear hp E1) | (go_at_call 36; (with_reducible refine cn.mono ?_); intro e w2 hp; obtain ⟨rfl, E2⟩ := HE1.out.callR hp; have hsz2 := E2.size; have t0 := ((Blk.new w2 (kcs s.next) 73).cell 0).trans (kcs_0 s.next); have t3 := ((Blk.new w2 (kcs s.next) 73).cell 3).trans (kcs_3 s.next); have st := run_stKg w2 w2.heap.size s.next zeroK rfl; have E3 := E2.alloc (.cells (kcs s.next) 73); obtain ⟨b, o, c, n, k, D, T, ho, hk1, hr, hw⟩ := E3.at_.opn2 HF.out HK2.out; have g0 := ho.c0; have g1 := ho.c1; have kn := ho.kn; have k5 := ho.n5; have n0 := rg0 hr; have n3 := rg3 hr; have hk1i : (k : Int) + 1 < (n : Int) := (by omega); clear ho hr hw; have HE3 := Lib.hid E3; clear hp E2 E3))
  go_quiet (fail)
  have E4 := HE3.out.drew nq
  have t4 : ((w2.alloc (.cells (kcs s.next) 73)).drewN nq).cell? ⟨w2.heap.size, 3, none⟩ = some (.string s.next.text) := t3
  obtain ⟨k9, k95, a1, af, E5⟩ := E4.adv HK2.out
  have hne : w2.heap.size ≠ g := by omega
  have z5 : (((w2.alloc (.cells (kcs s.next) 73)).drewN nq).setCell ⟨g, 1, none⟩ (.int .i64 ((k9 : Int) + 1))).cell? ⟨w2.heap.size, 3, none⟩ = some (.string s.next.text) := by rw [World.cell?_setCell_other _ _ _ _ (by simp)]; exact t4
  have c6 := key_any E5.at_
  rw [HX.out] at c6
  have HE5 := Lib.hid E5
  clear E4 E5
  go_wp2_with (first | (go_at_call 139; (with_reducible refine c6.mono ?_); intro e w6 hp; have z6 := cuP (cuP (gbC hp.2.2 z5 hne) (.cells (ncs ⟨12, 0, X.1, nilSl, nilSl⟩) 25)) (.cells (ncs ⟨14, 0, noS, nilSl, nilSl⟩) 25); obtain ⟨rfl, E6⟩ := HE5.out.call hp; have E6 := (E6.new ⟨12, 0, X.1, nilSl, nilSl⟩).newAt ⟨14, 0, noS, nilSl, nilSl⟩ (b := w6.heap.size + 1) (by simp); have sg := run_stNk (W := w6.alloc (.cells (ncs ⟨12, 0, X.1, nilSl, nilSl⟩) 25)) (b := w6.heap.size + 1) (by simp); have c7 := want_any E6.at_ ⟨#[40]⟩; have HE6 := Lib.hid E6; clear hp E6) | (go_at_call 82; (with_reducible refine c7.mono ?_); intro e w7 hp; have z7 := gbC hp.2.2 z6 hne; obtain ⟨rfl, E7⟩ := HE6.out.call hp; have E9 := E7.leaf 14 0 noS; have c9 := want_any E9.at_ ⟨#[41]⟩; have HE9 := Lib.hid E9; clear hp E7 E9) | (go_at_call 82; (with_reducible refine c9.mono ?_); intro e wA hp; obtain ⟨rfl, EA⟩ := HE9.out.call hp; have cA := block_any hL EA.at_; rw [HY.out] at cA; have HEA := Lib.hid EA; clear hp EA) | (go_at_call 87; (with_reducible refine cA.mono ?_); intro e wB hp; obtain ⟨NB, rfl, EB⟩ := HEA.out.callN hp; have fB := EB.fz 0 rfl 4; have dB : wB.cell? ⟨w6.heap.size + 1, 4, none⟩ = some (.slice none 0 0) := EB.c4 0 rfl; have EC := (EB.funcN (List.mem_cons_of_mem _ List.mem_cons_self) List.mem_cons_self).set4 0 rfl NB.kids.a NB.kids.n NB.kids.c; have lC := EC.ld 0 rfl; have ED := EC.kids1 List.mem_cons_self 12 0 X.1; have fD := ED.fz 1 rfl 4; have dD := ED.c4 1 rfl; have ez : (wB.setCell ⟨w6.heap.size + 1, 4, none⟩ (.slice NB.kids.a NB.kids.n NB.kids.c)).heap.size = wB.heap.size := (by simp [World.setCell]); have EE := ED.set4 1 rfl (some ⟨wB.heap.size, 0, none⟩) 1 1; have lE := EE.ld 1 rfl; have sE := EE.sto 2 rfl; rw [ez] at EE; have HEE := Lib.hid EE; clear hp EB EC ED EE))
  exact ((HEE.out.store 2 rfl _).fin (List.mem_cons_of_mem _ (List.mem_cons_of_mem _ List.mem_cons_self)) List.mem_cons_self rfl rfl)
set_option maxRecDepth 100000 in
set_option maxHeartbeats 4000000 in
theorem pair_setn {d : Nat} {L : Low} (hL : LowC d L) {g : Nat} {s : PS} {w : World} (h : At g d s w) (hf : s.fault = 0) (hb : seesF ⟨#[91]⟩ s = false) (q1 : (s.next.kind == 1) = true) (qg : (s.next.text.toList == [103, 101, 116]) = false) (qs : (s.next.text.toList == [115, 101, 116]) = true) (q5 : (s.take.next.kind == 5) = false) {X : ByteArray × PS} {N : ByteArray × PS} (hN : nameF (needsF ⟨#[40]⟩ X.2) = N) {Y : Tree × PS} (hX : keyF s.take = X) (hY : blockF L (needsF ⟨#[41]⟩ N.2) = Y) :
    Calls Tryz.prog 138 #[.pointer (some ⟨g, 0, none⟩)] w (PostN g d w (.mk 13 0 X.1 [] [.mk 14 0 noS [N.1] Y.1.kids], Y.2)) := by
  have hk2 : ¬ (s.next.kind = 0 ∨ s.next.kind = -1) := by
    have : s.next.kind = 1 := by simpa using q1
    omega
  have HK2 := Lib.hid hk2
  have hgl := h.lt
  have E0 := (Env.start h).new zeroN
  have c1 := take_f E0.at_ hb
  have HE0 := Lib.hid E0
  have HF := Lib.hid hf
  have HX := Lib.hid hX
  have HY := Lib.hid hY
  have HN := Lib.hid hN
  clear E0 h hb hf hX hY hk2 hN
  go_enter Tryz.func138, Tryz.ntmps138
  go_wp2_with (first | (go_at_call 79; (with_reducible refine c1.mono ?_); intro e w1 hp; obtain ⟨rfl, E1⟩ := HE0.out.call hp; have cn := now_any E1.at_ HF.out; have HE1 := Lib.hid E1; clear hp E1) | (go_at_call 36; (with_reducible refine cn.mono ?_); intro e w2 hp; obtain ⟨rfl, E2⟩ := HE1.out.callR hp; have hsz2 := E2.size; have t0 := ((Blk.new w2 (kcs s.next) 73).cell 0).trans (kcs_0 s.next); have t3 := ((Blk.new w2 (kcs s.next) 73).cell 3).trans (kcs_3 s.next); have st := run_stKg w2 w2.heap.size s.next zeroK rfl; have E3 := E2.alloc (.cells (kcs s.next) 73); obtain ⟨b, o, c, n, k, D, T, ho, hk1, hr, hw⟩ := E3.at_.opn2 HF.out HK2.out; have g0 := ho.c0; have g1 := ho.c1; have kn := ho.kn; have k5 := ho.n5; have n0 := rg0 hr; have n3 := rg3 hr; have hk1i : (k : Int) + 1 < (n : Int) := (by omega); clear ho hr hw; have HE3 := Lib.hid E3; clear hp E2 E3))
  go_quiet (fail)
  have E4 := HE3.out.drew nq
  have t4 : ((w2.alloc (.cells (kcs s.next) 73)).drewN nq).cell? ⟨w2.heap.size, 3, none⟩ = some (.string s.next.text) := t3
  obtain ⟨k9, k95, a1, af, E5⟩ := E4.adv HK2.out
  have hne : w2.heap.size ≠ g := by omega
  have z5 : (((w2.alloc (.cells (kcs s.next) 73)).drewN nq).setCell ⟨g, 1, none⟩ (.int .i64 ((k9 : Int) + 1))).cell? ⟨w2.heap.size, 3, none⟩ = some (.string s.next.text) := by rw [World.cell?_setCell_other _ _ _ _ (by simp)]; exact t4
  have c6 := key_any E5.at_
  rw [HX.out] at c6
  have HE5 := Lib.hid E5
  clear E4 E5
  go_wp2_with (first | (go_at_call 139; (with_reducible refine c6.mono ?_); intro e w6 hp; have z6 := cuP (cuP (gbC hp.2.2 z5 hne) (.cells (ncs ⟨12, 0, X.1, nilSl, nilSl⟩) 25)) (.cells (ncs ⟨14, 0, noS, nilSl, nilSl⟩) 25); obtain ⟨rfl, E6⟩ := HE5.out.call hp; have E6 := (E6.new ⟨12, 0, X.1, nilSl, nilSl⟩).newAt ⟨14, 0, noS, nilSl, nilSl⟩ (b := w6.heap.size + 1) (by simp); have sg := run_stNk (W := w6.alloc (.cells (ncs ⟨12, 0, X.1, nilSl, nilSl⟩) 25)) (b := w6.heap.size + 1) (by simp); have c7 := want_any E6.at_ ⟨#[40]⟩; have HE6 := Lib.hid E6; clear hp E6) | (go_at_call 82; (with_reducible refine c7.mono ?_); intro e w7 hp; have z7 := gbC hp.2.2 z6 hne; obtain ⟨rfl, E7⟩ := HE6.out.call hp; have f7 := E7.fz 1 rfl 0; have d7 := E7.c0 1 rfl; have E7 := E7.set0 1 rfl 13; have c8 := name_any E7.at_; rw [HN.out] at c8; have HE7 := Lib.hid E7; clear hp E7) | (go_at_call 80; (with_reducible refine c8.mono ?_); intro e w8 hp; obtain ⟨rfl, E8⟩ := HE7.out.call hp; have E9 := E8.str1 14 0 noS N.1; have f9 := E9.fz 0 rfl 3; have d9 := E9.c3 0 rfl; have E9 := E9.set3 0 rfl (some ⟨w8.heap.size, 0, none⟩) 1 1; have c9 := want_any E9.at_ ⟨#[41]⟩; have HE9 := Lib.hid E9; clear hp E8 E9) | (go_at_call 82; (with_reducible refine c9.mono ?_); intro e wA hp; obtain ⟨rfl, EA⟩ := HE9.out.call hp; have cA := block_any hL EA.at_; rw [HY.out] at cA; have HEA := Lib.hid EA; clear hp EA) | (go_at_call 87; (with_reducible refine cA.mono ?_); intro e wB hp; obtain ⟨NB, rfl, EB⟩ := HEA.out.callN hp; have fB := EB.fz 0 rfl 4; have dB : wB.cell? ⟨w6.heap.size + 1, 4, none⟩ = some (.slice none 0 0) := EB.c4 0 rfl; have EC := (EB.funcN (List.mem_cons_of_mem _ List.mem_cons_self) List.mem_cons_self).set4 0 rfl NB.kids.a NB.kids.n NB.kids.c; have lC := EC.ld 0 rfl; have ED := EC.kids1 List.mem_cons_self 13 0 X.1; have fD := ED.fz 1 rfl 4; have dD := ED.c4 1 rfl; have ez : (wB.setCell ⟨w6.heap.size + 1, 4, none⟩ (.slice NB.kids.a NB.kids.n NB.kids.c)).heap.size = wB.heap.size := (by simp [World.setCell]); have EE := ED.set4 1 rfl (some ⟨wB.heap.size, 0, none⟩) 1 1; have lE := EE.ld 1 rfl; have sE := EE.sto 2 rfl; rw [ez] at EE; have HEE := Lib.hid EE; clear hp EB EC ED EE))
  exact ((HEE.out.store 2 rfl _).fin (List.mem_cons_of_mem _ (List.mem_cons_of_mem _ List.mem_cons_self)) List.mem_cons_self rfl rfl)
set_option maxRecDepth 100000 in
set_option maxHeartbeats 4000000 in
theorem pair_sett {d : Nat} {L : Low} (hL : LowC d L) {g : Nat} {s : PS} {w : World} (h : At g d s w) (hf : s.fault = 0) (hb : seesF ⟨#[91]⟩ s = false) (q1 : (s.next.kind == 1) = true) (qg : (s.next.text.toList == [103, 101, 116]) = false) (qs : (s.next.text.toList == [115, 101, 116]) = true) (q5 : (s.take.next.kind == 5) = true) (q6 : (s.take.next.text.toList == [58]) = false) {X : ByteArray × PS} {N : ByteArray × PS} (hN : nameF (needsF ⟨#[40]⟩ X.2) = N) {Y : Tree × PS} (hX : keyF s.take = X) (hY : blockF L (needsF ⟨#[41]⟩ N.2) = Y) :
    Calls Tryz.prog 138 #[.pointer (some ⟨g, 0, none⟩)] w (PostN g d w (.mk 13 0 X.1 [] [.mk 14 0 noS [N.1] Y.1.kids], Y.2)) := by
  have hk2 : ¬ (s.next.kind = 0 ∨ s.next.kind = -1) := by
    have : s.next.kind = 1 := by simpa using q1
    omega
  have HK2 := Lib.hid hk2
  have hgl := h.lt
  have E0 := (Env.start h).new zeroN
  have c1 := take_f E0.at_ hb
  have HE0 := Lib.hid E0
  have HF := Lib.hid hf
  have HX := Lib.hid hX
  have HY := Lib.hid hY
  have HN := Lib.hid hN
  clear E0 h hb hf hX hY hk2 hN
  go_enter Tryz.func138, Tryz.ntmps138
  go_wp2_with (first | (go_at_call 79; (with_reducible refine c1.mono ?_); intro e w1 hp; obtain ⟨rfl, E1⟩ := HE0.out.call hp; have cn := now_any E1.at_ HF.out; have HE1 := Lib.hid E1; clear hp E1) | (go_at_call 36; (with_reducible refine cn.mono ?_); intro e w2 hp; obtain ⟨rfl, E2⟩ := HE1.out.callR hp; have hsz2 := E2.size; have t0 := ((Blk.new w2 (kcs s.next) 73).cell 0).trans (kcs_0 s.next); have t3 := ((Blk.new w2 (kcs s.next) 73).cell 3).trans (kcs_3 s.next); have st := run_stKg w2 w2.heap.size s.next zeroK rfl; have E3 := E2.alloc (.cells (kcs s.next) 73); obtain ⟨b, o, c, n, k, D, T, ho, hk1, hr, hw⟩ := E3.at_.opn2 HF.out HK2.out; have g0 := ho.c0; have g1 := ho.c1; have kn := ho.kn; have k5 := ho.n5; have n0 := rg0 hr; have n3 := rg3 hr; have hk1i : (k : Int) + 1 < (n : Int) := (by omega); clear ho hr hw; have HE3 := Lib.hid E3; clear hp E2 E3))
  go_quiet (fail)
  have E4 := HE3.out.drew nq
  have t4 : ((w2.alloc (.cells (kcs s.next) 73)).drewN nq).cell? ⟨w2.heap.size, 3, none⟩ = some (.string s.next.text) := t3
  obtain ⟨k9, k95, a1, af, E5⟩ := E4.adv HK2.out
  have hne : w2.heap.size ≠ g := by omega
  have z5 : (((w2.alloc (.cells (kcs s.next) 73)).drewN nq).setCell ⟨g, 1, none⟩ (.int .i64 ((k9 : Int) + 1))).cell? ⟨w2.heap.size, 3, none⟩ = some (.string s.next.text) := by rw [World.cell?_setCell_other _ _ _ _ (by simp)]; exact t4
  have c6 := key_any E5.at_
  rw [HX.out] at c6
  have HE5 := Lib.hid E5
  clear E4 E5
  go_wp2_with (first | (go_at_call 139; (with_reducible refine c6.mono ?_); intro e w6 hp; have z6 := cuP (cuP (gbC hp.2.2 z5 hne) (.cells (ncs ⟨12, 0, X.1, nilSl, nilSl⟩) 25)) (.cells (ncs ⟨14, 0, noS, nilSl, nilSl⟩) 25); obtain ⟨rfl, E6⟩ := HE5.out.call hp; have E6 := (E6.new ⟨12, 0, X.1, nilSl, nilSl⟩).newAt ⟨14, 0, noS, nilSl, nilSl⟩ (b := w6.heap.size + 1) (by simp); have sg := run_stNk (W := w6.alloc (.cells (ncs ⟨12, 0, X.1, nilSl, nilSl⟩) 25)) (b := w6.heap.size + 1) (by simp); have c7 := want_any E6.at_ ⟨#[40]⟩; have HE6 := Lib.hid E6; clear hp E6) | (go_at_call 82; (with_reducible refine c7.mono ?_); intro e w7 hp; have z7 := gbC hp.2.2 z6 hne; obtain ⟨rfl, E7⟩ := HE6.out.call hp; have f7 := E7.fz 1 rfl 0; have d7 := E7.c0 1 rfl; have E7 := E7.set0 1 rfl 13; have c8 := name_any E7.at_; rw [HN.out] at c8; have HE7 := Lib.hid E7; clear hp E7) | (go_at_call 80; (with_reducible refine c8.mono ?_); intro e w8 hp; obtain ⟨rfl, E8⟩ := HE7.out.call hp; have E9 := E8.str1 14 0 noS N.1; have f9 := E9.fz 0 rfl 3; have d9 := E9.c3 0 rfl; have E9 := E9.set3 0 rfl (some ⟨w8.heap.size, 0, none⟩) 1 1; have c9 := want_any E9.at_ ⟨#[41]⟩; have HE9 := Lib.hid E9; clear hp E8 E9) | (go_at_call 82; (with_reducible refine c9.mono ?_); intro e wA hp; obtain ⟨rfl, EA⟩ := HE9.out.call hp; have cA := block_any hL EA.at_; rw [HY.out] at cA; have HEA := Lib.hid EA; clear hp EA) | (go_at_call 87; (with_reducible refine cA.mono ?_); intro e wB hp; obtain ⟨NB, rfl, EB⟩ := HEA.out.callN hp; have fB := EB.fz 0 rfl 4; have dB : wB.cell? ⟨w6.heap.size + 1, 4, none⟩ = some (.slice none 0 0) := EB.c4 0 rfl; have EC := (EB.funcN (List.mem_cons_of_mem _ List.mem_cons_self) List.mem_cons_self).set4 0 rfl NB.kids.a NB.kids.n NB.kids.c; have lC := EC.ld 0 rfl; have ED := EC.kids1 List.mem_cons_self 13 0 X.1; have fD := ED.fz 1 rfl 4; have dD := ED.c4 1 rfl; have ez : (wB.setCell ⟨w6.heap.size + 1, 4, none⟩ (.slice NB.kids.a NB.kids.n NB.kids.c)).heap.size = wB.heap.size := (by simp [World.setCell]); have EE := ED.set4 1 rfl (some ⟨wB.heap.size, 0, none⟩) 1 1; have lE := EE.ld 1 rfl; have sE := EE.sto 2 rfl; rw [ez] at EE; have HEE := Lib.hid EE; clear hp EB EC ED EE))
  exact ((HEE.out.store 2 rfl _).fin (List.mem_cons_of_mem _ (List.mem_cons_of_mem _ List.mem_cons_self)) List.mem_cons_self rfl rfl)
end Go.Proofs.YtinoaajohkafmaaGreat.Rp

/-
  The reference's parser: a pair, any.
-/
namespace Go.Proofs.YtinoaajohkafmaaGreat.Rp
open Go Go.RowKit Go.Proofs.YtinoaajohkafmaaGreat.Uni Go.Proofs.YtinoaajohkafmaaGreat.Pa
open Go.Proofs.YtinoaajohkafmaaGreat.Lx
set_option linter.unusedVariables false
set_option linter.unusedSimpArgs false
attribute [local go_sem ↓] ldK stK alK bdK bsK ldN stN alN bdN bsN
attribute [local irreducible] kcs ncs ncells
attribute [local go_sem] run_alK run_bdK0 run_bdKs run_bdKn run_bdKe run_bsK run_fdK0 run_fdK1 run_fdK2 run_fdK3 run_fdN4 run_alN run_stNg run_ldNg run_bdN0 run_bdN04 run_bdN02 run_bdN01 run_bdN024 run_bdN03 run_bdN0234 run_bsN1 run_bsN2 run_bsN3
theorem sees_colon {g d : Nat} {s : PS} {w : World} (h : At g d s w) (hf : s.fault = 0) (hk : ¬ (s.next.kind = 0 ∨ s.next.kind = -1)) : (seesF ⟨#[58]⟩ s.take = true → colQ s) ∧ (seesF ⟨#[58]⟩ s.take = false → colN s) := by
  obtain ⟨_, _, _, _, _, _, _, _, _, _, hw⟩ := h.opn2 hf hk
  have hq : (s.take.next.text.toList == [58]) = eqT s.take.next.text ⟨#[58]⟩ := by rw [ByteArray.toList_eq]; rfl
  unfold colQ colN
  rw [hq]
  have he : eqT s.take.next.text ⟨#[58]⟩ = true → s.take.next.text = ⟨#[58]⟩ := fun h => by
    apply ByteArray.ext
    apply Array.ext'
    have := h
    unfold eqT at this
    simpa using this
  constructor
  · intro hs
    unfold seesF markF at hs
    simp only [Bool.and_eq_true, Bool.or_eq_true, beq_iff_eq] at hs
    obtain ⟨h1, h2⟩ := hs
    rcases h1 with h1 | h1
    · first
      | exact absurd (he h2) (hw h1)
      | exact ⟨by simpa using h1, h2⟩
    · first
      | exact absurd (he h2) (hw h1)
      | exact ⟨by simpa using h1, h2⟩
  · intro hs
    by_cases h5 : s.take.next.kind = 5
    · right
      refine ⟨by simpa using h5, ?_⟩
      unfold seesF markF at hs
      cases he2 : eqT s.take.next.text ⟨#[58]⟩ with
      | false => rfl
      | true => rw [he2, h5] at hs; simp at hs
    · left; simpa using h5
theorem pair_any {d : Nat} {L : Low} (hL : LowC d L) {g : Nat} {s : PS} {w : World} (h : At g d s w) (hf : s.fault = 0) : Calls Tryz.prog 138 #[.pointer (some ⟨g, 0, none⟩)] w (PostN g d w (elemF L s)) := by
  have hT : ∀ l : List UInt8, (s.next.text.toList == l) = eqT s.next.text ⟨l.toArray⟩ := fun l => by rw [ByteArray.toList_eq]; rfl
  unfold elemF
  cases hb : seesF ⟨#[91]⟩ s with
  | true =>
    rw [if_pos rfl]
    exact pair_br hL h hb rfl rfl
  | false =>
    rw [if_neg (by decide)]
    simp only
    by_cases h1 : s.next.kind = 1
    · have e1 : (s.next.kind == 1) = true := by simpa using h1
      have hk2 : ¬ (s.next.kind = 0 ∨ s.next.kind = -1) := by omega
      have ek : keyF s = (s.next.text, s.take) := by unfold keyF; rw [if_pos (.inl h1)]
      have hc := sees_colon h hf hk2
      have hg := hT [103, 101, 116]
      have hs := hT [115, 101, 116]
      cases hs8 : seesF ⟨#[58]⟩ s.take with
      | true =>
        rw [if_neg (by rw [ek, hs8]; simp)]
        cases g1 : eqT s.next.text ⟨#[103, 101, 116]⟩ with
        | true => exact pair_k3 hL h hf hb ⟨e1, .inl (hg.trans g1)⟩ (hc.1 hs8) rfl rfl
        | false =>
          cases g2 : eqT s.next.text ⟨#[115, 101, 116]⟩ with
          | true => exact pair_k3 hL h hf hb ⟨e1, .inr ⟨hg.trans g1, hs.trans g2⟩⟩ (hc.1 hs8) rfl rfl
          | false => exact pair_k2 hL h hf hb e1 (hg.trans g1) (hs.trans g2) rfl rfl
      | false =>
        rw [if_pos ⟨h1, by rw [ek]; exact hs8⟩]
        cases g1 : eqT s.next.text ⟨#[103, 101, 116]⟩ with
        | true =>
          rw [if_pos rfl]
          have g2 : (s.next.text.toList == [115, 101, 116]) = false := by
            have := hg.trans g1
            rw [beq_iff_eq] at this
            rw [this]; decide
          rw [ek]
          unfold getF
          rcases hc.2 hs8 with q | ⟨q, q'⟩
          · exact pair_getn hL h hf hb e1 (hg.trans g1) g2 q rfl rfl
          · exact pair_gett hL h hf hb e1 (hg.trans g1) g2 q q' rfl rfl
        | false =>
          rw [if_neg (by decide)]
          cases g2 : eqT s.next.text ⟨#[115, 101, 116]⟩ with
          | true =>
            rw [if_pos rfl, ek]
            unfold setF
            rcases hc.2 hs8 with q | ⟨q, q'⟩
            · exact pair_setn hL h hf hb e1 (hg.trans g1) (hs.trans g2) q rfl rfl rfl
            · exact pair_sett hL h hf hb e1 (hg.trans g1) (hs.trans g2) q q' rfl rfl rfl
          | false =>
            rw [if_neg (by decide)]
            exact pair_k2 hL h hf hb e1 (hg.trans g1) (hs.trans g2) rfl rfl
    · rw [if_neg (fun x => h1 x.1)]
      exact pair_k1 hL h hf hb (by simpa using h1) rfl rfl
end Go.Proofs.YtinoaajohkafmaaGreat.Rp
