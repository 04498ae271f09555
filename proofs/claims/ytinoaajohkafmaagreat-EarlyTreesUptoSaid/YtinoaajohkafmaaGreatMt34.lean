/-
  Texts of this seat in build order: RpBlk, RpApp, RpEq.
-/
import Derived.Test.YtinoaajohkafmaaGreatMt33
import Derived.Test.YtinoaajohkafmaaGreatMt07
import Derived.Test.YtinoaajohkafmaaGreatMt30
/-
  The reference's parser: block, args.
-/
namespace Go.Proofs.YtinoaajohkafmaaGreat.Rp
open Go Go.RowKit Go.Proofs.YtinoaajohkafmaaGreat.Uni Go.Proofs.YtinoaajohkafmaaGreat.Pa
open Go.Proofs.YtinoaajohkafmaaGreat.Lx
set_option linter.unusedVariables false
set_option linter.unusedSimpArgs false
attribute [local go_sem ↓] ldK stK alK bdK bsK ldN stN alN bdN bsN
attribute [local irreducible] kcs ncs ncells
attribute [local go_sem] run_alK run_bdK0 run_bdKs run_bdKn run_bdKe run_bsK run_fdK0 run_fdK1 run_fdK2 run_fdK3 run_fdN4 run_alN run_stNg run_ldNg run_bdN0 run_bdN04 run_bdN02 run_bdN01 run_bdN024 run_bdN03 run_bdN0234 run_bsN1 run_bsN2 run_bsN3
section
variable {g d : Nat} {s : PS} {S0 : Nat → Prop} {w0 W : World} {bs : List (Nat × Nd)} {vs : List (Tree × Nd)}
theorem Env.lift (E : Env g d s S0 w0 W bs vs) {b : Nat} (hb : W.heap.size ≤ b) : Own S0 w0.heap.size (bs.map Prod.fst) b := by
  refine ⟨.inr (Nat.le_trans E.size hb), fun hm => ?_⟩
  obtain ⟨x, hx, rfl⟩ := List.mem_map.1 hm
  have := (E.bl x hx).2.lt
  omega
theorem Env.callL {d' : Nat} {R : List Tree × PS} {w' : World} {e : Ending} (E : Env g d s S0 w0 W bs vs) (h : PostL g d' W R e w') (k n : Int) (t : ByteArray) : ∃ S : Sl, e = .returned (.slice S.a S.n S.c) ∧ Env g d' R.2 S0 w0 w' bs ((.mk k n t [] R.1, ⟨k, n, t, nilSl, S⟩) :: vs) := by
  obtain ⟨v, xs, he, hgr, hl, ha, hg⟩ := h
  obtain ⟨S, hv, hrow, hrp⟩ := hgr.row
  subst hv
  refine ⟨S, he, (E.frame ha hg).add (Rep.of (xs := xs) ?_ ?_)⟩
  · exact hrow.keep (fun b hb hS => ⟨E.lift hS, rfl⟩)
  · exact Reps.keep (fun b hb hS => ⟨E.lift hS, rfl⟩) _ _ hrp
theorem Env.func (E : Env g d s S0 w0 W bs vs) {k n : Int} {t : ByteArray} {ns : List ByteArray} {S : Sl} {T : Tree} {N : Nd} (h1 : (.mk k n t ns [], ⟨k, n, t, S, nilSl⟩) ∈ vs) (h2 : (T, N) ∈ vs) : Env g d s S0 w0 W bs ((.mk k n t ns T.kids, ⟨k, n, t, S, N.kids⟩) :: vs) := by
  have r1 := E.rp _ h1
  unfold Rep at r1
  obtain ⟨-, -, -, r2, -⟩ := r1
  obtain ⟨xs, r3, r4⟩ := (E.rp _ h2).ks
  refine E.add ?_
  unfold Rep
  exact ⟨rfl, rfl, rfl, r2, xs, r3, r4⟩
end
theorem grow_up {w0 w1 W : World} {ts : List Tree} {xs : List Nd} {v : Value} (h : Grow w1 W ts xs v) (hs : w0.heap.size ≤ w1.heap.size) : Grow w0 W ts xs v :=
  ⟨own_base h.own hs, Reps.keep (fun b hb hS => ⟨⟨Nat.le_trans hs hS.1, hS.2⟩, rfl⟩) _ _ h.rp⟩
set_option maxRecDepth 100000 in
set_option maxHeartbeats 4000000 in
theorem block_any {d : Nat} {L : Low} (hL : LowC d L) {g : Nat} {s : PS} {w : World} (h : At g d s w) :
    Calls Tryz.prog 87 #[.pointer (some ⟨g, 0, none⟩)] w (PostN g d w (blockF L s)) := by
  have E0 := (Env.start h).new zeroN
  have c1 := want_any E0.at_ ⟨#[123]⟩
  have HE0 := Lib.hid E0
  clear E0 h
  go_enter Tryz.func87, Tryz.ntmps87
  go_wp2_with (first | (go_at_call 82; (with_reducible refine c1.mono ?_); intro e w1 hp; obtain ⟨rfl, E1⟩ := HE0.out.call hp; have c2 := stmts_blk hL E1.at_; have HE1 := Lib.hid E1; clear hp E1) | (go_at_call 20; (with_reducible refine c2.mono ?_); intro e w2 hp; obtain ⟨S2, rfl, E2⟩ := HE1.out.callL hp 40 0 noS; have c3 := want_any E2.at_ ⟨#[125]⟩; have HE2 := Lib.hid E2; clear hp E2) | (go_at_call 82; (with_reducible refine c3.mono ?_); intro e w3 hp; obtain ⟨rfl, E3⟩ := HE2.out.call hp; have s3 := E3.sto 0 rfl; have HE3 := Lib.hid E3; clear hp E3))
  exact ((HE3.out.store 0 rfl _).fin List.mem_cons_self List.mem_cons_self rfl rfl)
set_option maxRecDepth 100000 in
set_option maxHeartbeats 4000000 in
theorem args_any {d : Nat} {L : Low} (hL : LowC d L) {g : Nat} {s : PS} {w : World} (h : At g d s w) :
    Calls Tryz.prog 133 #[.pointer (some ⟨g, 0, none⟩)] w (PostL g d w (rargsF L s)) := by
  have c1 := want_any h ⟨#[40]⟩
  have hgl := h.lt
  clear h
  unfold rargsF
  go_enter Tryz.func133, Tryz.ntmps133
  go_wp2_with (first | (go_at_call 82; (with_reducible refine c1.mono ?_); rintro e w1 ⟨rfl, ha1, hg1⟩; have c2 := list_any hL ⟨#[41]⟩ ha1; have HG1 := Lib.hid hg1; clear ha1 hg1) | (go_at_call 137; (with_reducible refine c2.mono ?_); rintro e w2 ⟨v2, xs2, rfl, hgr2, hl2, ha2, hg2⟩; have c3 := want_any ha2 ⟨#[41]⟩; have HGR2 := Lib.hid hgr2; have HL2 := Lib.hid hl2; have HG2 := Lib.hid hg2; clear hgr2 hl2 ha2 hg2) | (go_at_call 82; (with_reducible refine c3.mono ?_); rintro e w3 ⟨rfl, ha3, hg3⟩; have HA3 := Lib.hid ha3; have HG3 := Lib.hid hg3; clear ha3 hg3))
  go_ret
  exact ⟨_, xs2, rfl, (grow_up HGR2.out HG1.out.size).frame HG3.out hgl, HL2.out, HA3.out, (HG1.out.trans HG2.out).trans HG3.out⟩
end Go.Proofs.YtinoaajohkafmaaGreat.Rp

/-
  The reference's parser: lists of kids and of names that grow by append.
-/
namespace Go.Proofs.YtinoaajohkafmaaGreat.Rp
open Go Go.RowKit Go.Proofs.YtinoaajohkafmaaGreat.Uni Go.Proofs.YtinoaajohkafmaaGreat.Pa
open Go.Proofs.YtinoaajohkafmaaGreat.Lx
set_option linter.unusedVariables false
set_option linter.unusedSimpArgs false
attribute [local go_sem ↓] ldK stK alK bdK bsK ldN stN alN bdN bsN
attribute [local irreducible] kcs ncs ncells
attribute [local go_sem] run_alK run_bdK0 run_bdKs run_bdKn run_bdKe run_bsK run_fdK0 run_fdK1 run_fdK2 run_fdK3 run_fdN4 run_alN run_stNg run_ldNg run_bdN0 run_bdN04 run_bdN02 run_bdN01 run_bdN024 run_bdN03 run_bdN0234 run_bsN1 run_bsN2 run_bsN3
section
variable {g d : Nat} {s : PS} {S0 : Nat → Prop} {w0 W : World} {bs : List (Nat × Nd)} {vs : List (Tree × Nd)}
theorem Env.grownV (E : Env g d s S0 w0 W bs vs) {w' : World} {v : Value} {et size n : Nat} {xs : List Value} (het : et ≠ 73) (own : W.ownsRow 0 et size v n xs) (ob : ∀ b, v.ownBlock = some b → w0.heap.size ≤ b ∧ Own S0 w0.heap.size (bs.map Prod.fst) b) (hg : W.grownBy w' v.ownBlock) : Env g d s S0 w0 w' bs [] := by
  have hgl := E.gl
  have hob : ∀ b, v.ownBlock = some b → w0.heap.size ≤ b := fun b hb => (ob b hb).1
  refine ⟨?_, GB.grown E.gb hg hob, hgl, E.s0, fun x hx => ⟨(E.bl x hx).1, ?_⟩, E.nd, fun v hv => by simp at hv⟩
  · refine E.at_.grown (w0 := w0) (et := et) hg het (own_up own hob) hgl
  · refine (hg.block x.1 (E.bl x hx).2.lt (fun e => ?_)).trans (E.bl x hx).2
    exact (ob x.1 e.symm).2.2 (List.mem_map.2 ⟨x, hx, rfl⟩)
theorem Env.ofGrow (E : Env g d s S0 w0 W bs vs) {ts : List Tree} {xs : List Nd} {a : Option Addr} {n c : Nat} (G : GrowX (Own S0 w0.heap.size (bs.map Prod.fst)) w0.heap.size W ts xs (.slice a n c)) (k m : Int) (t : ByteArray) : Env g d s S0 w0 W bs ((.mk k m t [] ts, ⟨k, m, t, nilSl, ⟨a, n, c⟩⟩) :: vs) :=
  E.add (Rep.of (xs := xs) ⟨G.own, fun b hb => (G.ob b hb).2⟩ (Reps.keep (fun b hb hS => ⟨hS.1, rfl⟩) _ _ G.rp))
theorem growx_gb {w' : World} {ts : List Tree} {xs : List Nd} {v : Value} (G : GrowX (Own S0 w0.heap.size (bs.map Prod.fst)) w0.heap.size W ts xs v) (E : Env g d s S0 w0 W bs vs) (hg : GB g W w') : GrowX (Own S0 w0.heap.size (bs.map Prod.fst)) w0.heap.size w' ts xs v :=
  G.frame fun b hb hS => ⟨hS, hg.block b hb (by simpa using E.ne b hS)⟩
theorem growx_cell {ts : List Tree} {xs : List Nd} {v : Value} (G : GrowX (Own S0 w0.heap.size (bs.map Prod.fst)) w0.heap.size W ts xs v) (i : Nat) {b : Nat} {o : Nd} (hi : bs[i]? = some (b, o)) (j : Nat) (u : Value) {bs' : List (Nat × Nd)} (hb : bs'.map Prod.fst = bs.map Prod.fst) : GrowX (Own S0 w0.heap.size (bs'.map Prod.fst)) w0.heap.size (W.setCell ⟨b, j, none⟩ u) ts xs v := by
  rw [hb]
  exact G.frame fun c hc hS => ⟨hS, heap_setCell_other W ⟨b, j, none⟩ c u (fun e => hS.2 (List.mem_map.2 ⟨_, List.mem_of_getElem? hi, e.symm⟩))⟩
theorem growx_drew {S : Nat → Prop} {lo : Nat} {ts : List Tree} {xs : List Nd} {v : Value} (G : GrowX S lo W ts xs v) : GrowX S lo W.drew ts xs v := G.frame fun b hb hS => ⟨hS, rfl⟩
theorem app_facts (E : Env g d s S0 w0 W bs vs) {ts : List Tree} {xs : List Nd} {v : Value} (G : GrowX (Own S0 w0.heap.size (bs.map Prod.fst)) w0.heap.size W ts xs v) {d' : Nat} {R : Tree × PS} {e : Ending} {w5 : World} (hp : PostN g d' W R e w5) (hn : ts.length ≤ 200000) :
    ∃ N a n c w6, e = .returned (.agg (ncs N)) ∧ Env g d' R.2 S0 w0 w5 bs ((R.1, N) :: vs) ∧ (Builtin.append_ #[23, 23] 23 #[v, .slice (some ⟨w5.heap.size, 0, none⟩) 1 1]).run Tryz.prog (w5.alloc (.cells (ncells [N]).toArray 25)) = .ok (.slice a n c) w6 ∧ Env g d' R.2 S0 w0 w6 bs [] ∧ GrowX (Own S0 w0.heap.size (bs.map Prod.fst)) w0.heap.size w6 (ts ++ [R.1]) (xs ++ [N]) (.slice a n c) := by
  have hlt : ∀ b, v.ownBlock = some b → b < W.heap.size := fun b hb => (G.own.lt b hb).2
  obtain ⟨N, he, hr, ha, hg⟩ := hp
  have E5 : Env g d' R.2 S0 w0 w5 bs ((R.1, N) :: vs) := by
    obtain ⟨N', he', E'⟩ := E.callN (⟨N, he, hr, ha, hg⟩ : PostN g d' W R e w5)
    refine (E.frame ha hg).add (Rep.keep (fun b hb hS2 => ⟨?_, rfl⟩) _ _ hr)
    rcases hS2 with hS2 | hS2
    · exact hS2.elim
    · exact E.lift hS2
  have G5 := growx_gb G E hg
  have hT : Rep (fun b => Own S0 w0.heap.size (bs.map Prod.fst) b ∧ some b ≠ v.ownBlock) w5 R.1 N := Rep.keep (fun b hb hS => by
    rcases hS with hS | hS
    · exact hS.elim
    · exact ⟨⟨E.lift hS, fun e => by have := hlt b e.symm; omega⟩, rfl⟩) _ _ hr
  obtain ⟨a, n, c, w6, h1, h2, h3⟩ := grow_one G5 hT (fun b hb => E5.lift hb) E5.size hn
  have G6 := G5.alloc (.cells (ncells [N]).toArray 25)
  exact ⟨N, a, n, c, w6, he, E5, h1, (E5.alloc (.cells (ncells [N]).toArray 25)).grownV (by decide) G6.own G6.ob h3, h2⟩
theorem app_one (E : Env g d s S0 w0 W bs vs) {ts : List Tree} {xs : List Nd} {v : Value} (G : GrowX (Own S0 w0.heap.size (bs.map Prod.fst)) w0.heap.size W ts xs v) {T : Tree} {N : Nd} (hT : Rep (fun b => Own S0 w0.heap.size (bs.map Prod.fst) b ∧ some b ≠ v.ownBlock) W T N) (hn : ts.length ≤ 200000) :
    ∃ a n c w6, (Builtin.append_ #[23, 23] 23 #[v, .slice (some ⟨W.heap.size, 0, none⟩) 1 1]).run Tryz.prog (W.alloc (.cells (ncells [N]).toArray 25)) = .ok (.slice a n c) w6 ∧ Env g d s S0 w0 w6 bs [] ∧ GrowX (Own S0 w0.heap.size (bs.map Prod.fst)) w0.heap.size w6 (ts ++ [T]) (xs ++ [N]) (.slice a n c) := by
  obtain ⟨a, n, c, w6, h1, h2, h3⟩ := grow_one G hT (fun b hb => E.lift hb) E.size hn
  have G6 := G.alloc (.cells (ncells [N]).toArray 25)
  exact ⟨a, n, c, w6, h1, (E.alloc (.cells (ncells [N]).toArray 25)).grownV (by decide) G6.own G6.ob h3, h2⟩
end
structure GrowN (S : Nat → Prop) (lo : Nat) (W : World) (ts : List ByteArray) (v : Value) : Prop where
  own : W.ownsRow 0 9 1 v ts.length (ts.map Value.string)
  ob : ∀ b, v.ownBlock = some b → lo ≤ b ∧ S b
theorem GrowN.nil (S : Nat → Prop) (lo : Nat) (W : World) : GrowN S lo W [] (.slice none 0 0) := ⟨World.ownsRow_nil _ _ _ _, fun b hb => by simp [Value.ownBlock] at hb⟩
theorem GrowN.frame {S S' : Nat → Prop} {lo : Nat} {W w' : World} {ts : List ByteArray} {v : Value} (G : GrowN S lo W ts v) (hk : ∀ b, b < W.heap.size → S b → S' b ∧ w'.heap[b]? = W.heap[b]?) : GrowN S' lo w' ts v := by
  have hlt : ∀ b, v.ownBlock = some b → b < W.heap.size := fun b hb => (G.own.lt b hb).2
  exact ⟨own_keep G.own (fun b hb => (hk b (hlt b hb) (G.ob b hb).2).2), fun b hb => ⟨(G.ob b hb).1, (hk b (hlt b hb) (G.ob b hb).2).1⟩⟩
theorem GrowN.alloc {S : Nat → Prop} {lo : Nat} {W : World} {ts : List ByteArray} {v : Value} (G : GrowN S lo W ts v) (o : Obj) : GrowN S lo (W.alloc o) ts v := G.frame fun b hb hS => ⟨hS, heap_alloc_old _ _ hb⟩
theorem GrowN.drew {S : Nat → Prop} {lo : Nat} {W : World} {ts : List ByteArray} {v : Value} (G : GrowN S lo W ts v) : GrowN S lo W.drew ts v := G.frame fun b hb hS => ⟨hS, rfl⟩
theorem grow_name {S : Nat → Prop} {lo : Nat} {W : World} {ts : List ByteArray} {v : Value} (G : GrowN S lo W ts v) (T : ByteArray) (hS : ∀ b, W.heap.size ≤ b → S b) (hlo : lo ≤ W.heap.size) (hn : ts.length ≤ 200000) :
    ∃ a n c w', (Builtin.append_ #[22, 22] 22 #[v, .slice (some ⟨W.heap.size, 0, none⟩) 1 1]).run Tryz.prog (W.alloc (.cells #[.string T] 9)) = .ok (.slice a n c) w' ∧ GrowN S lo w' (ts ++ [T]) (.slice a n c) ∧ (W.alloc (.cells #[.string T] 9)).grownBy w' v.ownBlock := by
  obtain ⟨i0, hi, hz0, hz1, hz2⟩ := info_parts infoS3
  have G1 := G.alloc (.cells #[.string T] 9)
  obtain ⟨v', w', h3, h4, h5, _, h6⟩ := run_append_own_at (P := Tryz.prog) (W.alloc (.cells #[.string T] 9)) 0 22 22 9 i0 (.string noS) 1 16 Tryz.underlying22 hi hz0 hz1 hz2 rfl (by decide) v ts.length (ts.map Value.string) G1.own ⟨W.heap.size, 0, none⟩ 1 1 [.string T] rfl (cell_one_new W _ _) (by intro u hu; rw [List.mem_singleton.1 hu]; rfl) (by unfold maxLen; omega) (by omega) (Nat.zero_le _)
  have fin : GrowN S lo w' (ts ++ [T]) v' := by
    refine ⟨by rw [List.map_append, List.length_append]; exact h4, fun b hb => ?_⟩
    rcases h6 with e | e
    · exact G.ob b (e ▸ hb)
    · rw [e] at hb; cases hb; simp; exact ⟨by omega, hS _ (by omega)⟩
  rcases h4.2 with ⟨rfl, -⟩ | ⟨g, cap, cur, rfl, -⟩
  · exact ⟨_, _, _, w', h3, fin, h5⟩
  · exact ⟨_, _, _, w', h3, fin, h5⟩
section
variable {g d : Nat} {s : PS} {S0 : Nat → Prop} {w0 W : World} {bs : List (Nat × Nd)} {vs : List (Tree × Nd)}
theorem grown_gb {w' : World} {ts : List ByteArray} {v : Value} (G : GrowN (Own S0 w0.heap.size (bs.map Prod.fst)) w0.heap.size W ts v) (E : Env g d s S0 w0 W bs vs) (hg : GB g W w') : GrowN (Own S0 w0.heap.size (bs.map Prod.fst)) w0.heap.size w' ts v :=
  G.frame fun b hb hS => ⟨hS, hg.block b hb (by simpa using E.ne b hS)⟩
theorem grown_cell {ts : List ByteArray} {v : Value} (G : GrowN (Own S0 w0.heap.size (bs.map Prod.fst)) w0.heap.size W ts v) (i : Nat) {b : Nat} {o : Nd} (hi : bs[i]? = some (b, o)) (j : Nat) (u : Value) {bs' : List (Nat × Nd)} (hb : bs'.map Prod.fst = bs.map Prod.fst) : GrowN (Own S0 w0.heap.size (bs'.map Prod.fst)) w0.heap.size (W.setCell ⟨b, j, none⟩ u) ts v := by
  rw [hb]
  exact G.frame fun c hc hS => ⟨hS, heap_setCell_other W ⟨b, j, none⟩ c u (fun e => hS.2 (List.mem_map.2 ⟨_, List.mem_of_getElem? hi, e.symm⟩))⟩
theorem app_name (E : Env g d s S0 w0 W bs vs) {ts : List ByteArray} {v : Value} (G : GrowN (Own S0 w0.heap.size (bs.map Prod.fst)) w0.heap.size W ts v) {d' : Nat} {s' : PS} {T : ByteArray} {e : Ending} {w5 : World} (hp : Post g d' W (.string T) s' e w5) (hn : ts.length ≤ 200000) :
    ∃ a n c w6, e = .returned (.string T) ∧ Env g d' s' S0 w0 w5 bs vs ∧ (Builtin.append_ #[22, 22] 22 #[v, .slice (some ⟨w5.heap.size, 0, none⟩) 1 1]).run Tryz.prog (w5.alloc (.cells #[.string T] 9)) = .ok (.slice a n c) w6 ∧ Env g d' s' S0 w0 w6 bs [] ∧ GrowN (Own S0 w0.heap.size (bs.map Prod.fst)) w0.heap.size w6 (ts ++ [T]) (.slice a n c) := by
  have hg := hp.2.2
  obtain ⟨he, E5⟩ := E.call hp
  have G5 := grown_gb G E hg
  obtain ⟨a, n, c, w6, h1, h2, h3⟩ := grow_name G5 T (fun b hb => E5.lift hb) E5.size hn
  have G6 := G5.alloc (.cells #[.string T] 9)
  exact ⟨a, n, c, w6, he, E5, h1, (E5.alloc (.cells #[.string T] 9)).grownV (by decide) G6.own G6.ob h3, h2⟩
theorem Env.ofNames (E : Env g d s S0 w0 W bs vs) {ts : List ByteArray} {a : Option Addr} {n c : Nat} (G : GrowN (Own S0 w0.heap.size (bs.map Prod.fst)) w0.heap.size W ts (.slice a n c)) (k m : Int) (t : ByteArray) : Env g d s S0 w0 W bs ((.mk k m t ts [], ⟨k, m, t, ⟨a, n, c⟩, nilSl⟩) :: vs) := by
  refine E.add ?_
  unfold Rep
  exact ⟨rfl, rfl, rfl, ⟨G.own, fun b hb => (G.ob b hb).2⟩, [], by rw [ncells_nil]; exact Row.nil _ _ _ _, by unfold Reps; trivial⟩
theorem ncs_set3 (n : Nd) (a : Option Addr) (l c : Nat) : (ncs n).setIfInBounds 3 (.slice a l c) = ncs { n with names := ⟨a, l, c⟩ } := by unfold ncs; rfl
theorem Env.set3 (E : Env g d s S0 w0 W bs vs) (i : Nat) {b : Nat} {N : Nd} (hi : bs[i]? = some (b, N)) (a : Option Addr) (l c : Nat) : Env g d s S0 w0 (W.setCell ⟨b, 3, none⟩ (.slice a l c)) (bs.set i (b, { N with names := ⟨a, l, c⟩ })) vs := by
  have hB : Blk W b (ncs N) 25 := (E.bl _ (List.mem_of_getElem? hi)).2
  rw [setCell_row hB, ncs_set3]
  exact E.store i hi _
theorem Env.c3 (E : Env g d s S0 w0 W bs vs) (i : Nat) {b : Nat} {N : Nd} (hi : bs[i]? = some (b, N)) : W.cell? ⟨b, 3, none⟩ = some (.slice N.names.a N.names.n N.names.c) := ((E.bl _ (List.mem_of_getElem? hi)).2.cell 3).trans (ncs_3 N)
theorem Env.e3 (E : Env g d s S0 w0 W bs vs) : W.cell? ⟨g, 3, none⟩ = some (.int .i64 s.fault) := E.at_.c3
theorem Env.e30 (E : Env g d s S0 w0 W bs vs) (hf : s.fault = 0) : W.cell? ⟨g, 3, none⟩ = some (.int .i64 0) := E.at_.c30 hf
end
end Go.Proofs.YtinoaajohkafmaaGreat.Rp

/-
  Plain mathematics: the reference's parser gives what the program's gives.
-/
namespace Go.Proofs.YtinoaajohkafmaaGreat.Rp
open Go.Proofs.YtinoaajohkafmaaGreat.Pa
open Go.Proofs.YtinoaajohkafmaaGreat.Lx
set_option linter.unusedVariables false
set_option linter.unusedSimpArgs false
def Eqv {T : Type} (x y : T × PS) : Prop := x.2 = y.2 ∧ (y.2.fault = 0 → x.1 = y.1)
structure LowEq (L M : Low) : Prop where
  ex : ∀ s, OkS s → Eqv (L.ex s) (M.ex s)
  st : ∀ s, OkS s → Eqv (L.st s) (M.st s)
  un : ∀ s, OkS s → Eqv (L.un s) (M.un s)
theorem Eqv.rfl' {T : Type} (x : T × PS) : Eqv x x := ⟨rfl, fun _ => rfl⟩
theorem Eqv.eq {T : Type} {x y : T × PS} (h : Eqv x y) (hf : y.2.fault = 0) : x = y := Prod.ext (h.2 hf) h.1
theorem back {s t : PS} (h : Adv s t) (hs : OkS s) (hf : t.fault = 0) : s.fault = 0 := by
  by_cases h0 : s.fault = 0
  · exact h0
  · have := (h hs).2.2 h0
    rw [this] at hf
    exact hf
theorem stay {s t : PS} (h : Adv s t) (hs : OkS s) (hf : s.fault ≠ 0) : t = s := (h hs).2.2 hf
section
variable {L M : Low}
theorem more_eq {T : Type} {el em : PS → T × PS} (he : ∀ s, OkS s → Eqv (el s) (em s)) (hm : ∀ s, Adv s (em s).2) : ∀ f s, OkS s → Eqv (moreF el f s) (moreF em f s)
  | 0, s, _ => Eqv.rfl' _
  | f + 1, s, hs => by
    unfold moreF
    split
    · rename_i h
      have o1 := (take_adv (sees_kind h) hs).1
      have e1 := he _ o1
      have o2 := (hm _ o1).1
      have e2 := more_eq he hm f _ o2
      have a2 := more_adv hm f (em s.take).2
      simp only
      rw [e1.1]
      refine ⟨e2.1, fun hf => ?_⟩
      simp only at hf ⊢
      rw [e1.2 (back a2 o2 hf), e2.2 hf]
    · exact Eqv.rfl' _
theorem rlist_adv {T : Type} {el : PS → T × PS} (hel : ∀ s, Adv s (el s).2) (x : ByteArray) (s : PS) : Adv s (rlistF x el s).2 := by
  unfold rlistF
  split
  · exact (hel s).trans (more_adv hel _ _)
  · exact Adv.refl s
theorem list_eq {T : Type} {el em : PS → T × PS} (he : ∀ s, OkS s → Eqv (el s) (em s)) (hm : ∀ s, Adv s (em s).2) (fin : ByteArray) (s : PS) (hs : OkS s) : Eqv ((rlistF fin el s).1, needsF fin (rlistF fin el s).2) (listF fin em s) := by
  unfold rlistF listF
  by_cases h0 : s.fault = 0
  · cases h : seesF fin s with
    | true =>
      rw [if_neg (by simp), if_pos rfl]
      have e : needsF fin s = s.take := by unfold needsF; rw [h]; rfl
      rw [e]
      exact Eqv.rfl' _
    | false =>
      rw [if_pos ⟨h0, rfl⟩, if_neg (by simp)]
      have e1 := he s hs
      have o1 := (hm s hs).1
      have e2 := more_eq he hm (em s).2.left.length _ o1
      have a2 := more_adv hm (em s).2.left.length (em s).2
      simp only
      rw [e1.1]
      refine ⟨by simp only [e2.1], fun hf => ?_⟩
      simp only at hf ⊢
      have f2 := back (needs_adv _ _) (a2 o1).1 hf
      rw [e1.2 (back a2 o1 f2), e2.2 f2]
  · have hl := hs.st h0
    have hn : s.next = stopK := by unfold PS.next; rw [hl]; rfl
    have h : ∀ x, seesF x s = false := fun x => by unfold seesF markF; rw [hn]; rfl
    rw [if_neg (by intro hh; exact h0 hh.1), h fin, if_neg (by simp)]
    have e1 := stay (hm s) hs h0
    have e2 := stay (more_adv hm (em s).2.left.length (em s).2) (hm s hs).1 (by rw [e1]; exact h0)
    refine ⟨?_, fun hf => ?_⟩
    · simp only
      rw [e2, e1]
    · simp only at hf
      rw [e2, e1] at hf
      exact absurd (back (needs_adv _ _) hs hf) h0
theorem name_eq (s : PS) (hs : OkS s) : Eqv (nameF s) (nameF s) := Eqv.rfl' _
theorem args_eq (h : LowEq L M) (hM : LowA M) (s : PS) (hs : OkS s) : Eqv (rargsF L s) (listF ⟨#[41]⟩ M.ex (needsF ⟨#[40]⟩ s)) := list_eq h.ex hM.ex _ _ (needs_adv _ s hs).1
theorem stmts_eq (h : LowEq L M) (hM : LowA M) (fin : PS → Bool) : ∀ f s, OkS s → Eqv (stmtsF L fin f s) (stmtsF M fin f s)
  | 0, s, _ => Eqv.rfl' _
  | f + 1, s, hs => by
    unfold stmtsF
    split
    · exact Eqv.rfl' _
    · split
      · exact Eqv.rfl' _
      · have e1 := h.st s hs
        have o1 := (hM.st s hs).1
        have e2 := stmts_eq h hM fin f _ o1
        have a2 := stmts_adv hM fin f (M.st s).2
        simp only
        rw [e1.1]
        refine ⟨e2.1, fun hf => ?_⟩
        simp only at hf ⊢
        rw [e1.2 (back a2 o1 hf), e2.2 hf]
theorem block_eq (h : LowEq L M) (hM : LowA M) (s : PS) (hs : OkS s) : Eqv (blockF L s) (blockF M s) := by
  unfold blockF
  have o1 := (needs_adv ⟨#[123]⟩ s hs).1
  have e := stmts_eq h hM (seesF ⟨#[125]⟩) ((needsF ⟨#[123]⟩ s).left.length + 1) _ o1
  have a := stmts_adv hM (seesF ⟨#[125]⟩) ((needsF ⟨#[123]⟩ s).left.length + 1) (needsF ⟨#[123]⟩ s)
  refine ⟨by simp only [e.1], fun hf => ?_⟩
  simp only at hf ⊢
  rw [e.2 (back (needs_adv _ _) (a o1).1 hf)]
theorem paren_eq (h : LowEq L M) (hM : LowA M) (s : PS) (hs : OkS s) : Eqv (parenF L s) (parenF M s) := by
  unfold parenF
  have o1 := (needs_adv ⟨#[40]⟩ s hs).1
  have e := h.ex _ o1
  exact ⟨by simp only [e.1], fun hf => e.2 (back (needs_adv _ _) (hM.ex _ o1).1 hf)⟩
theorem func_eq (h : LowEq L M) (hM : LowA M) (n : ByteArray) (s : PS) (hs : OkS s) : Eqv (rfuncF L n s) (funcF M n s) := by
  unfold rfuncF funcF
  have o1 := (needs_adv ⟨#[40]⟩ s hs).1
  have e := list_eq name_eq name_adv ⟨#[41]⟩ _ o1
  have o2 := (list_adv name_adv ⟨#[41]⟩ _ o1).1
  have e1 := e.1
  simp only at e1
  have e2 := block_eq h hM _ o2
  have a2 := block_adv hM (listF ⟨#[41]⟩ nameF (needsF ⟨#[40]⟩ s)).2
  simp only
  rw [e1]
  refine ⟨e2.1, fun hf => ?_⟩
  simp only at hf ⊢
  have := e.2 (back a2 o2 hf)
  simp only at this
  rw [this, e2.2 hf]
theorem pair_eq (h : LowEq L M) (hM : LowA M) (k k' : Tree) (s : PS) (hs : OkS s) (hk : (pairF M k' s).2.fault = 0 → k = k') : Eqv (pairF L k s) (pairF M k' s) := by
  unfold pairF at hk ⊢
  have e := h.ex _ (needs_adv ⟨#[58]⟩ s hs).1
  refine ⟨e.1, fun hf => ?_⟩
  simp only at hf hk ⊢
  rw [e.2 hf, hk hf]
theorem get_eq (h : LowEq L M) (hM : LowA M) (s : PS) (hs : OkS s) : Eqv (getF L s) (getF M s) := by
  unfold getF
  have o := ((((key_adv s).nd (x := ⟨#[40]⟩)).nd (x := ⟨#[41]⟩)) hs).1
  have e := block_eq h hM _ o
  refine ⟨e.1, fun hf => ?_⟩
  simp only at hf ⊢
  rw [e.2 hf]
theorem set_eq (h : LowEq L M) (hM : LowA M) (s : PS) (hs : OkS s) : Eqv (setF L s) (setF M s) := by
  unfold setF
  have o := ((((key_adv s).nd (x := ⟨#[40]⟩)).by name_adv).nd (x := ⟨#[41]⟩) hs).1
  have e := block_eq h hM _ o
  refine ⟨e.1, fun hf => ?_⟩
  simp only at hf ⊢
  rw [e.2 hf]
theorem elem_eq (h : LowEq L M) (hM : LowA M) (s : PS) (hs : OkS s) : Eqv (elemF L s) (elemF M s) := by
  unfold elemF
  split
  · rename_i hh
    have o1 := (take_adv (sees_kind hh) hs).1
    have e := h.ex _ o1
    have a := hM.ex s.take
    simp only
    rw [e.1]
    have o2 := (a.nd (x := ⟨#[93]⟩) o1).1
    exact pair_eq h hM _ _ _ o2 (fun hf => e.2 (back (needs_adv _ _) (a o1).1 (back (pair_adv hM _ _) o2 hf)))
  · have o := (key_adv s hs).1
    simp only
    split
    · split
      · exact get_eq h hM _ o
      · split
        · exact set_eq h hM _ o
        · exact pair_eq h hM _ _ _ o (fun _ => rfl)
    · exact pair_eq h hM _ _ _ o (fun _ => rfl)
theorem binl_eq {f g : PS → Tree × PS} (he : ∀ s, OkS s → Eqv (f s) (g s)) (hg : ∀ s, Adv s (g s).2) (lev : Nat) : ∀ k l l' s, OkS s → ((binLoop lev g k l' s).2.fault = 0 → l = l') → Eqv (binLoop lev f k l s) (binLoop lev g k l' s)
  | 0, l, l', s, _, hl => ⟨rfl, hl⟩
  | k + 1, l, l', s, hs, hl => by
    unfold binLoop at hl ⊢
    by_cases h : seesOneF (levelT lev) s = true
    · rw [if_pos h] at hl
      rw [if_pos h, if_pos h]
      have o1 := (take_adv (one_kind h) hs).1
      have e1 := he _ o1
      have o2 := (hg _ o1).1
      simp only at hl ⊢
      rw [e1.1]
      have a2 := binl_adv hg lev k
      refine binl_eq he hg lev k _ _ _ o2 (fun hf => ?_)
      rw [hl hf, e1.2 (back (a2 _ _) o2 hf)]
    · rw [if_neg h] at hl
      rw [if_neg h, if_neg h]
      exact ⟨rfl, hl⟩
theorem bin_eq (h : LowEq L M) (hM : LowA M) : ∀ n s, OkS s → Eqv (binF L n s) (binF M n s)
  | 0, s, hs => h.un s hs
  | n + 1, s, hs => by
    unfold binF
    have e1 := bin_eq h hM n s hs
    have a1 := bin_adv hM n
    have o1 := (a1 s hs).1
    simp only
    rw [e1.1]
    exact binl_eq (fun s hs => bin_eq h hM n s hs) a1 _ _ _ _ _ o1 (fun hf => e1.2 (back (binl_adv a1 _ _ _ _) o1 hf))
theorem cond_eq (h : LowEq L M) (hM : LowA M) (s : PS) (hs : OkS s) : Eqv (condF L s) (condF M s) := by
  unfold condF
  have e1 := bin_eq h hM 6 s hs
  have o1 := (bin_adv hM 6 s hs).1
  simp only
  rw [e1.1]
  split
  · rename_i hh
    have o2 := (take_adv (sees_kind hh) o1).1
    have e2 := h.ex _ o2
    have o3 := ((hM.ex _).nd (x := ⟨#[58]⟩) o2).1
    have e3 := h.ex _ o3
    rw [e2.1]
    refine ⟨e3.1, fun hf => ?_⟩
    simp only at hf ⊢
    have f3 := back (hM.ex _) o3 hf
    have f2 := back (needs_adv _ _) ((hM.ex _) o2).1 f3
    have f1 := back ((take_adv (sees_kind hh)).trans (hM.ex _)) o1 f2
    rw [e1.2 f1, e2.2 f2, e3.2 hf]
  · exact e1
theorem ex_eq (h : LowEq L M) (hM : LowA M) (s : PS) (hs : OkS s) : Eqv (rexF L s) (exF M s) := by
  unfold rexF exF
  have e1 := cond_eq h hM s hs
  have o1 := (cond_adv hM s hs).1
  simp only
  rw [e1.1]
  split
  · rename_i hh
    have f1 : (condF M s).2.fault = 0 := o1.live (fun e => (sees_kind hh) (.inr e))
    have t1 := e1.2 f1
    rw [t1]
    split
    · rename_i hk
      have o2 := (fail_adv (condF M s).2 (e := 2) (by decide) o1).1
      have hf2 : ((condF M s).2.fail 2).fault ≠ 0 := by unfold PS.fail; rw [if_pos f1]; exact (by decide : (2 : Int) ≠ 0)
      have n1 := stay (needs_adv ⟨#[61]⟩ _) o2 hf2
      have n2 := stay (hM.ex _) (s := needsF ⟨#[61]⟩ ((condF M s).2.fail 2)) (by rw [n1]; exact o2) (by rw [n1]; exact hf2)
      refine ⟨by simp only; rw [n2, n1], fun hf => ?_⟩
      simp only at hf
      rw [n2, n1] at hf
      exact absurd hf hf2
    · have o2 := (needs_adv ⟨#[61]⟩ _ o1).1
      have e2 := h.ex _ o2
      refine ⟨e2.1, fun hf => ?_⟩
      simp only at hf ⊢
      rw [e2.2 hf]
  · exact e1
theorem prim_eq (h : LowEq L M) (hM : LowA M) (s : PS) (hs : OkS s) : Eqv (rprimF L s) (primF M s) := by
  unfold rprimF primF
  split
  · exact Eqv.rfl' _
  split
  · exact Eqv.rfl' _
  split
  · exact Eqv.rfl' _
  split
  · exact paren_eq h hM s hs
  split
  · rename_i hh
    have o1 := (take_adv (sees_kind hh) hs).1
    have e := list_eq h.ex hM.ex ⟨#[93]⟩ _ o1
    have e1 := e.1
    refine ⟨e1, fun hf => ?_⟩
    simp only at hf ⊢
    have := e.2 hf
    simp only at this
    rw [this]
  split
  · rename_i hh
    have o1 := (take_adv (sees_kind hh) hs).1
    have e := list_eq (elem_eq h hM) (elem_adv hM) ⟨#[125]⟩ _ o1
    have e1 := e.1
    refine ⟨e1, fun hf => ?_⟩
    simp only at hf ⊢
    have := e.2 hf
    simp only at this
    rw [this]
  split
  · rename_i hh
    have o1 := (take_adv (sees_kind hh) hs).1
    simp only
    unfold optF
    by_cases hk : s.take.next.kind = 1
    · rw [if_pos hk]
      have hno : seesF ⟨#[40]⟩ s.take = false := by unfold seesF markF; rw [hk]; rfl
      rw [hno, if_neg (by simp)]
      unfold nameF
      rw [if_pos hk]
      exact func_eq h hM _ _ (take_adv (by rw [hk]; decide) o1).1
    · rw [if_neg hk]
      cases hp : seesF ⟨#[40]⟩ s.take with
      | true => exact func_eq h hM _ _ o1
      | false =>
        simp only [Bool.false_eq_true, if_false]
        unfold nameF
        rw [if_neg hk]
        have f1 : s.take.fault = 0 := hs.live (fun e => (sees_kind hh) (.inr e))
        have hf2 : (s.take.fail 2).fault ≠ 0 := by unfold PS.fail; rw [if_pos f1]; exact (by decide : (2 : Int) ≠ 0)
        have o2 := (fail_adv s.take (e := 2) (by decide) o1).1
        have n2 := stay (func_adv hM noS _) o2 hf2
        have e1 : needsF ⟨#[40]⟩ s.take = s.take.fail 2 := by unfold needsF; rw [hp]; rfl
        have e2 := func_eq h hM noS _ o1
        have e3 : (funcF M noS s.take).2 = s.take.fail 2 := by
          unfold funcF
          rw [e1]
          simp only
          have a1 := stay (list_adv name_adv ⟨#[41]⟩ _) o2 hf2
          have a2 := stay (block_adv hM _) (s := (listF ⟨#[41]⟩ nameF (s.take.fail 2)).2) (by rw [a1]; exact o2) (by rw [a1]; exact hf2)
          rw [a2, a1]
        refine ⟨?_, fun hf => ?_⟩
        · simp only
          rw [e2.1, e3, n2]
        · simp only at hf
          rw [n2] at hf
          exact absurd hf hf2
  · exact Eqv.rfl' _
end
end Go.Proofs.YtinoaajohkafmaaGreat.Rp
