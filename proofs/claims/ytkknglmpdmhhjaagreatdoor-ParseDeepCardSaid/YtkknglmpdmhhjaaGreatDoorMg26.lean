/-
  Lists of kids that grow by append; called, choice, attempt.
-/
import Derived.Test.YtkknglmpdmhhjaaGreatDoorMg25
import Derived.Laws.OwnMore
import Derived.Deep.RegionLaw
namespace Go.Proofs.YtkknglmpdmhhjaaGreatDoor.Pa
open Go Go.RowKit Go.Proofs.YtkknglmpdmhhjaaGreatDoor.Lx Go.Proofs.YtkknglmpdmhhjaaGreatDoor.Uni
set_option linter.unusedVariables false
set_option linter.unusedSimpArgs false
attribute [local go_sem ↓] ldK stK alK bdK bsK ldN stN alN bdN bsN
attribute [local irreducible] kcs ncs ncells
attribute [local go_sem] run_alK run_bdK0 run_bdKs run_bdKn run_bdKe run_bsK run_fdK0 run_fdK1 run_fdK2 run_fdK3 run_fdN4 run_alN run_stNg run_ldNg run_bdN0 run_bdN04 run_bdN02 run_bdN01 run_bdN024 run_bdN03 run_bdN0234 run_bsN1 run_bsN2 run_bsN3

/-- A list that grows beside a call's own variables. -/
structure GrowX (S : Nat → Prop) (lo : Nat) (W : World) (ts : List Tree) (xs : List Nd) (v : Value) : Prop where
  own : W.ownsRow 0 27 5 v ts.length (ncells xs)
  ob : ∀ b, v.ownBlock = some b → lo ≤ b ∧ S b
  rp : Reps (fun b => S b ∧ some b ≠ v.ownBlock) W ts xs
theorem own_keep {w w' : World} {b e size n : Nat} {v : Value} {xs : List Value} (h : w.ownsRow b e size v n xs) (hk : ∀ k, v.ownBlock = some k → w'.heap[k]? = w.heap[k]?) : w'.ownsRow b e size v n xs := by
  refine ⟨h.1, ?_⟩
  rcases h.2 with hn | ⟨g, cap, cur, rfl, hb, hgg, rest⟩
  · exact .inl hn
  · exact .inr ⟨g, cap, cur, rfl, hb, (hk g rfl).trans hgg, rest⟩
theorem GrowX.frame {S S' : Nat → Prop} {lo : Nat} {W w' : World} {ts : List Tree} {xs : List Nd} {v : Value} (G : GrowX S lo W ts xs v) (hk : ∀ b, b < W.heap.size → S b → S' b ∧ w'.heap[b]? = W.heap[b]?) : GrowX S' lo w' ts xs v := by
  have hlt : ∀ b, v.ownBlock = some b → b < W.heap.size := fun b hb => (G.own.lt b hb).2
  exact ⟨own_keep G.own (fun b hb => (hk b (hlt b hb) (G.ob b hb).2).2), fun b hb => ⟨(G.ob b hb).1, (hk b (hlt b hb) (G.ob b hb).2).1⟩,
    Reps.keep (fun b hb hS => ⟨⟨(hk b hb hS.1).1, hS.2⟩, (hk b hb hS.1).2⟩) _ _ G.rp⟩
theorem GrowX.new {S : Nat → Prop} {lo : Nat} {W : World} {ts : List Tree} {xs : List Nd} (h : Reps S W ts xs) (hS : S W.heap.size) (hlo : lo ≤ W.heap.size) {m : Nat} (hm : ts.length = m) (hl : m ≤ 200000) : GrowX S lo (W.alloc (.cells (ncells xs).toArray 27)) ts xs (.slice (some ⟨W.heap.size, 0, none⟩) m m) := by
  obtain ⟨r1, r2⟩ := Row.new (S := S) W xs m (by rw [h.len, hm]) (by unfold maxLen; omega) hS
  refine ⟨by rw [hm]; exact r1, fun b hb => ?_, Reps.keep (fun b hb hS => ⟨⟨hS, ?_⟩, heap_alloc_old _ _ hb⟩) _ _ h⟩
  · simp [Value.ownBlock] at hb; rw [← hb]; exact ⟨hlo, hS⟩
  · simp [Value.ownBlock]; omega
theorem Reps.append {S : Nat → Prop} {w : World} {us : List Tree} {ys : List Nd} (hu : Reps S w us ys) : ∀ {ts : List Tree} {xs : List Nd}, Reps S w ts xs → Reps S w (ts ++ us) (xs ++ ys)
  | [], [], _ => hu
  | t1 :: ts, x1 :: xs, h => by
    unfold Reps at h
    show Reps S w (t1 :: (ts ++ us)) (x1 :: (xs ++ ys))
    unfold Reps
    exact ⟨h.1, Reps.append hu h.2⟩
  | [], _ :: _, h => by unfold Reps at h; exact h.elim
  | _ :: _, [], h => by unfold Reps at h; exact h.elim
theorem grow_src {S : Nat → Prop} {lo : Nat} {W : World} {ts ts2 : List Tree} {xs xs2 : List Nd} {v v2 : Value} (G : GrowX S lo W ts xs v) (h2 : W.ownsRow 0 27 5 v2 ts2.length (ncells xs2)) (r2 : Reps (fun b => S b ∧ some b ≠ v.ownBlock) W ts2 xs2) (hS : ∀ b, W.heap.size ≤ b → S b) (hlo : lo ≤ W.heap.size) (hn : ts.length ≤ 200000) (hn2 : ts2.length ≤ 200000) :
    ∃ a n c w', (Builtin.append_ #[25, 25] 25 #[v, v2]).run Tryz.prog W = .ok (.slice a n c) w' ∧ GrowX S lo w' (ts ++ ts2) (xs ++ xs2) (.slice a n c) ∧ W.grownBy w' v.ownBlock := by
  obtain ⟨i0, hi, hz0, hz1, hz2⟩ := info_parts infoN3
  have fin : ∀ v' w', w'.ownsRow 0 27 5 v' (ts.length + ts2.length) (ncells xs ++ ncells xs2) → W.grownBy w' v.ownBlock → (v'.ownBlock = v.ownBlock ∨ v'.ownBlock = some W.heap.size) → GrowX S lo w' (ts ++ ts2) (xs ++ xs2) v' := fun v' w' h3 h4 h5 => by
    have hk : ∀ b, b < W.heap.size → (S b ∧ some b ≠ v.ownBlock) → (S b ∧ some b ≠ v'.ownBlock) ∧ w'.heap[b]? = W.heap[b]? := fun b hb hS => by
      refine ⟨⟨hS.1, ?_⟩, h4.block b hb hS.2⟩
      rcases h5 with e | e
      · rw [e]; exact hS.2
      · rw [e]; intro h; cases h; omega
    refine ⟨by rw [ncells_append, List.length_append]; exact h3, fun b hb => ?_, ?_⟩
    · rcases h5 with e | e
      · exact G.ob b (e ▸ hb)
      · rw [e] at hb; cases hb; exact ⟨hlo, hS _ (Nat.le_refl _)⟩
    · have a1 := Reps.keep hk _ _ G.rp
      have a2 := Reps.keep hk _ _ r2
      clear G h2 r2 hk h3 h4 h5
      generalize (fun b => S b ∧ some b ≠ v'.ownBlock) = Q at a1 a2 ⊢
      exact Reps.append a2 a1
  have shape : ∀ {v' : Value} {w' : World} {n : Nat} {l : List Value}, w'.ownsRow 0 27 5 v' n l → ∃ a n c, v' = .slice a n c := fun h => by
    rcases h.2 with ⟨rfl, -⟩ | ⟨g, cap, cur, rfl, -⟩
    · exact ⟨_, _, _, rfl⟩
    · exact ⟨_, _, _, rfl⟩
  rcases h2.2 with ⟨rfl, hl⟩ | ⟨g2, cap, cur, rfl, -⟩
  · obtain ⟨a, n, c, rfl⟩ := shape G.own
    have hx : ncells xs2 = [] := List.eq_nil_of_length_eq_zero (by rw [h2.1, hl, Nat.zero_mul])
    refine ⟨a, n, c, W, run_append_owned_none (P := Tryz.prog) (w := W) 0 25 25 27 i0 5 Tryz.underlying25 hi _ _ _ G.own, fin _ _ ?_ (World.grownBy.refl _ _) (.inl rfl), World.grownBy.refl _ _⟩
    rw [hx, List.append_nil, hl]
    exact G.own
  · obtain ⟨v', w', h3, h4, h5, _, h6⟩ := run_append_own_at (P := Tryz.prog) W 0 25 25 27 i0 (.agg (ncs zeroN)) 5 80 Tryz.underlying25 hi hz0 hz1 hz2 zeroN_cells (by decide) v ts.length (ncells xs) G.own ⟨g2, 0, none⟩ ts2.length cap (ncells xs2) h2.1 (h2.cells (g := g2) rfl) (ncells_one xs2) (by unfold maxLen; omega) (by omega) (Nat.zero_le _)
    obtain ⟨a, n, c, rfl⟩ := shape h4
    exact ⟨a, n, c, w', h3, fin _ _ h4 h5 h6, h5⟩
/-- One element behind the list. -/
theorem grow_one {S : Nat → Prop} {lo : Nat} {W : World} {ts : List Tree} {xs : List Nd} {v : Value} (G : GrowX S lo W ts xs v) {T : Tree} {N : Nd} (hT : Rep (fun b => S b ∧ some b ≠ v.ownBlock) W T N) (hS : ∀ b, W.heap.size ≤ b → S b) (hlo : lo ≤ W.heap.size) (hn : ts.length ≤ 200000) :
    ∃ a n c w', (Builtin.append_ #[25, 25] 25 #[v, .slice (some ⟨W.heap.size, 0, none⟩) 1 1]).run Tryz.prog (W.alloc (.cells (ncells [N]).toArray 27)) = .ok (.slice a n c) w' ∧ GrowX S lo w' (ts ++ [T]) (xs ++ [N]) (.slice a n c) ∧ (W.alloc (.cells (ncells [N]).toArray 27)).grownBy w' v.ownBlock := by
  have hrow := (Row.new (S := fun _ => True) W [N] 1 rfl (by unfold maxLen; omega) trivial).1
  refine grow_src (ts2 := [T]) (xs2 := [N]) (G.frame (w' := W.alloc (.cells (ncells [N]).toArray 27)) fun b hb h => ⟨h, heap_alloc_old _ _ hb⟩) hrow ?_ (fun b hb => hS b (by simp at hb; omega)) (by simp; omega) hn (by simp)
  unfold Reps
  exact ⟨Rep.keep (fun b hb h => ⟨h, heap_alloc_old _ _ hb⟩) _ _ hT, by unfold Reps; trivial⟩
theorem own_up {w : World} {b b' e size n : Nat} {v : Value} {xs : List Value} (h : w.ownsRow b e size v n xs) (hb : ∀ k, v.ownBlock = some k → b' ≤ k) : w.ownsRow b' e size v n xs := by
  refine ⟨h.1, ?_⟩
  rcases h.2 with hn | ⟨g, cap, cur, hv, hg, rest⟩
  · exact .inl hn
  · exact .inr ⟨g, cap, cur, hv, hb g (by rw [hv]; rfl), rest⟩
section
variable {g d : Nat} {s : PS} {S0 : Nat → Prop} {w0 W : World} {bs : List (Nat × Nd)} {vs : List (Tree × Nd)}
/-- A world in which a list has been appended to. -/
theorem Env.grown (E : Env g d s S0 w0 W bs vs) {w' : World} {ts : List Tree} {xs : List Nd} {v : Value} (G : GrowX (Own S0 w0.heap.size (bs.map Prod.fst)) w0.heap.size W ts xs v) (hg : W.grownBy w' v.ownBlock) : Env g d s S0 w0 w' bs [] := by
  have hgl := E.gl
  have hg8 := E.gx.lo
  have hob : ∀ b, v.ownBlock = some b → w0.heap.size ≤ b := fun b hb => (G.ob b hb).1
  refine ⟨?_, ⟨E.gx.fa.keep fun k hk hl => hg.block k hl (fun e => by have := hob k e.symm; omega), fun j v hj => cell_keep (E.gx.lv j v hj) (fun hl => hg.block _ hl (fun e => by have := hob _ e.symm; omega)), hg8⟩, GB.grown E.gb hg hob, hgl, E.s0, fun x hx => ⟨(E.bl x hx).1, ?_⟩, E.nd, fun v hv => by simp at hv⟩
  · refine E.at_.grown (w0 := w0) (et := 27) hg (by decide) (own_up G.own hob) hgl
  · refine (hg.block x.1 (E.bl x hx).2.lt (fun e => ?_)).trans (E.bl x hx).2
    exact (G.ob x.1 e.symm).2.2 (List.mem_map.2 ⟨x, hx, rfl⟩)
theorem Env.ofGrow (E : Env g d s S0 w0 W bs vs) {ts : List Tree} {xs : List Nd} {a : Option Addr} {n c : Nat} (G : GrowX (Own S0 w0.heap.size (bs.map Prod.fst)) w0.heap.size W ts xs (.slice a n c)) (k m : Int) (t : ByteArray) : Env g d s S0 w0 W bs ((.mk k m t [] ts, ⟨k, m, t, nilSl, ⟨a, n, c⟩⟩) :: vs) :=
  E.add (Rep.of (xs := xs) ⟨G.own, fun b hb => (G.ob b hb).2⟩ (Reps.keep (fun b hb hS => ⟨hS.1, rfl⟩) _ _ G.rp))
end
theorem step_app {P : Program} {ops : Array Oper} {o : Oper} {a : Act} {w w' : World} {K : Act → World → Prop} {Q : Exit → Act → World → Prop} {E : Prop} (hg : o.guard = none) (s x : Operand) (t : TypeId) (hop : o.op = Op.call { callee := Callee.builtin Builtin.append, args := #[s, x], argTypes := #[t, t] }) (ht : o.type = t)
    (v1 v2 v' : Value) (hs : a.eval s = v1) (hx : a.eval x = v2) (hrun : (Builtin.append_ #[t, t] t #[v1, v2]).run P w = .ok v' w') (hK : K (a.put o.dst v') w') : if Region.wanted o (yielded ops a.tmps) = true then Oper.wp P o a w K Q else E := by
  have hw : Region.wanted o (yielded ops a.tmps) = true := by simp [Region.wanted, hg]
  rw [if_pos hw]
  subst ht
  unfold Oper.wp
  simp [execOp, hop, resolve, invoke, builtin, hs, hx, hrun, Result.andThen]
  exact hK

theorem run_stNk {W : World} {b : Nat} (hb : b = W.heap.size) (o r : Nd) : (Lx.St 27 (.pointer (some ⟨b, 0, none⟩)) (.agg (ncs r))).run Tryz.prog (W.alloc (.cells (ncs o) 27)) = .ok () (W.alloc (.cells (ncs r) 27)) := by
  subst hb
  exact run_stNg W r o

section
variable {g d : Nat} {s : PS} {S0 : Nat → Prop} {w0 W : World} {bs : List (Nat × Nd)} {vs : List (Tree × Nd)}
theorem GrowX.gb {w' : World} {ts : List Tree} {xs : List Nd} {v : Value} (G : GrowX (Own S0 w0.heap.size (bs.map Prod.fst)) w0.heap.size W ts xs v) (E : Env g d s S0 w0 W bs vs) (hg : GB g W w') : GrowX (Own S0 w0.heap.size (bs.map Prod.fst)) w0.heap.size w' ts xs v :=
  G.frame fun b hb hS => ⟨hS, hg.block b hb (by simpa using E.ne b hS)⟩
theorem GrowX.alloc {S : Nat → Prop} {lo : Nat} {ts : List Tree} {xs : List Nd} {v : Value} (G : GrowX S lo W ts xs v) (o : Obj) : GrowX S lo (W.alloc o) ts xs v := G.frame fun b hb hS => ⟨hS, heap_alloc_old _ _ hb⟩
theorem GrowX.local {ts : List Tree} {xs : List Nd} {v : Value} (G : GrowX (Own S0 w0.heap.size (bs.map Prod.fst)) w0.heap.size W ts xs v) (N : Nd) {b : Nat} (hb : b = W.heap.size) : GrowX (Own S0 w0.heap.size (((b, N) :: bs).map Prod.fst)) w0.heap.size (W.alloc (.cells (ncs N) 27)) ts xs v :=
  G.frame fun c hc hS => ⟨⟨hS.1, fun hm => by
    rw [List.map_cons, List.mem_cons] at hm
    rcases hm with h | h
    · have h' : c = b := h
      omega
    · exact hS.2 h⟩, heap_alloc_old _ _ hc⟩
theorem GrowX.row {ts : List Tree} {xs : List Nd} {v : Value} (G : GrowX (Own S0 w0.heap.size (bs.map Prod.fst)) w0.heap.size W ts xs v) {b : Nat} {o : Nd} (hm : (b, o) ∈ bs) (cs : Array Value) : GrowX (Own S0 w0.heap.size (bs.map Prod.fst)) w0.heap.size (W.setRow b cs) ts xs v :=
  G.frame fun c hc hS => ⟨hS, setRow_other W b c cs (fun e => hS.2 (List.mem_map.2 ⟨_, hm, e.symm⟩))⟩
/-- A call of a method that gives a node, and append of it. -/
theorem app_facts (E : Env g d s S0 w0 W bs vs) {ts : List Tree} {xs : List Nd} {v : Value} (G : GrowX (Own S0 w0.heap.size (bs.map Prod.fst)) w0.heap.size W ts xs v) {d' : Nat} {R : Tree × PS} {e : Ending} {w5 : World} (hp : PostN g d' W R e w5) (hn : ts.length ≤ 200000) :
    ∃ N a n c w6, e = .returned (.agg (ncs N)) ∧ Env g d' R.2 S0 w0 w5 bs ((R.1, N) :: vs) ∧ (Builtin.append_ #[25, 25] 25 #[v, .slice (some ⟨w5.heap.size, 0, none⟩) 1 1]).run Tryz.prog (w5.alloc (.cells (ncells [N]).toArray 27)) = .ok (.slice a n c) w6 ∧ Env g d' R.2 S0 w0 w6 bs [] ∧ GrowX (Own S0 w0.heap.size (bs.map Prod.fst)) w0.heap.size w6 (ts ++ [R.1]) (xs ++ [N]) (.slice a n c) := by
  have hlt : ∀ b, v.ownBlock = some b → b < W.heap.size := fun b hb => (G.own.lt b hb).2
  obtain ⟨N, he, E5⟩ := E.callN hp
  obtain ⟨N', he', hr, ha, hg⟩ := hp
  obtain rfl : N = N' := by
    rw [he] at he'
    have h1 : ncs N = ncs N' := by injection he' with h; injection h
    unfold ncs Sl.v at h1
    simp at h1
    obtain ⟨h1, h2, h3, ⟨h4, h5, h6⟩, h7, h8, h9⟩ := h1
    cases N with | mk k1 n1 t1 s1 u1 => cases N' with | mk k2 n2 t2 s2 u2 => cases s1; cases s2; cases u1; cases u2; simp_all
  have G5 := G.gb E hg
  have hT : Rep (fun b => Own S0 w0.heap.size (bs.map Prod.fst) b ∧ some b ≠ v.ownBlock) w5 R.1 N := Rep.keep (fun b hb hS => by
    rcases hS with hS | hS
    · exact hS.elim
    · exact ⟨⟨E.lift hS, fun e => by have := hlt b e.symm; omega⟩, rfl⟩) _ _ hr
  obtain ⟨a, n, c, w6, h1, h2, h3⟩ := grow_one G5 hT (fun b hb => E5.lift hb) E5.size hn
  exact ⟨N, a, n, c, w6, he, E5, h1, (E5.alloc (.cells (ncells [N]).toArray 27)).grown (G5.alloc _) h3, h2⟩
end
set_option maxRecDepth 100000 in
set_option maxHeartbeats 4000000 in
theorem choice_true {d : Nat} {L : Low} (hL : LowC d L) {g : Nat} {s : PS} {w : World} (h : At g d s w) (hX : Gx g w) (hk : seesF ⟨#[101, 108, 115, 101]⟩ (L.st (parenF L s).2).2 = true) :
    Calls Tryz.prog 89 #[.pointer (some ⟨g, 0, none⟩)] w (PostN g d w (choiceF L s)) := by
  have E0 := (Env.start h hX).new zeroN
  have c0 := paren_any hL E0.at_ E0.gx
  have HE0 := Lib.hid E0
  unfold choiceF
  simp only
  rw [hk]
  clear E0 h hX
  go_enter Tryz.func89, Tryz.ntmps89
  go_wp2_with (first | (go_at_call 90; (with_reducible refine c0.mono ?_); intro e w1 hp; obtain ⟨N1, rfl, E1⟩ := HE0.out.callN hp; have c1 := hL.st E1.at_ E1.gx; have HE1 := Lib.hid E1; clear hp E1) | (go_at_call 44; (with_reducible refine c1.mono ?_); intro e w2 hp; obtain ⟨N2, rfl, E2⟩ := HE1.out.callN hp; have sg := run_stNk (W := (w2.alloc (.cells (ncells [N1, N2]).toArray 27)).alloc (.cells (ncs (kidN 34 (newSl w2.heap.size 2))) 27)) (b := w2.heap.size + 1 + 1) (by simp); have HE2 := Lib.hid E2; clear hp E2) | (go_at_call 22; (with_reducible refine (node_any _ _ _ _ _).mono ?_); rintro e wn ⟨rfl, rfl⟩) | (go_at_call 86; refine Hid.out ?_))
  refine Lib.hid ?_
  have E2 := HE2.out
  have r1 := E2.rp _ (List.mem_cons_of_mem _ List.mem_cons_self)
  have r2 := E2.rp _ List.mem_cons_self
  have G := GrowX.new (m := 2) (ts := [(parenF L s).1, (L.st (parenF L s).2).1]) (xs := [N1, N2]) (by unfold Reps; refine ⟨r1, ?_⟩; unfold Reps; exact ⟨r2, by unfold Reps; trivial⟩) E2.own_new E2.size rfl (by omega)
  have E3 := ((E2.kids2 (List.mem_cons_of_mem _ List.mem_cons_self) List.mem_cons_self 34 0 noS).alloc (.cells (ncs (kidN 34 (newSl w2.heap.size 2))) 27)).newAt (kidN 34 (newSl w2.heap.size 2)) (b := w2.heap.size + 1 + 1) (by simp)
  have c3 := takes_t E3.at_ hk
  have HE3 := Lib.hid E3
  have HG := Lib.hid ((G.alloc (.cells (ncs (kidN 34 (newSl w2.heap.size 2))) 27)).local (kidN 34 (newSl w2.heap.size 2)) (b := w2.heap.size + 1 + 1) (by simp))
  clear G E3 E2 r1 r2
  go_wp2_with ((go_at_call 86; (with_reducible refine c3.mono ?_); intro e w4 hp; obtain ⟨rfl, E4⟩ := HE3.out.call hp; have G4 := HG.out.gb HE3.out hp.2.2; have HG4 := Lib.hid (G4.frame (w' := w4.drew) (fun b hb hS => ⟨hS, rfl⟩)); have E4 := E4.drew1; have c4 := hL.st E4.at_ E4.gx; have d4 : w4.drew.cell? ⟨w2.heap.size + 1 + 1, 4, none⟩ = some (.slice (some ⟨w2.heap.size, 0, none⟩) 2 2) := E4.c4 0 rfl; have f4 := E4.fz 0 rfl; have HE4 := Lib.hid E4; clear hp E4))
  go_region_law (first | (go_simp; go_at_call 44; (with_reducible refine c4.mono ?_); intro e w5 hp; obtain ⟨N5, a6, n6, cc6, w6, rfl, E5, hrun, E6, G6⟩ := app_facts HE4.out HG4.out hp (by simp); have d5 : w5.cell? ⟨w2.heap.size + 1 + 1, 4, none⟩ = some (.slice (some ⟨w2.heap.size, 0, none⟩) 2 2) := E5.c4 0 rfl; have d5a : ∀ o, (w5.alloc o).cell? ⟨w2.heap.size + 1 + 1, 4, none⟩ = some (.slice (some ⟨w2.heap.size, 0, none⟩) 2 2) := fun o => (E5.alloc o).c4 0 rfl; have f6 := E6.fz 0 rfl 4; have d6 := E6.c4 0 rfl; have E7 := (E6.ofGrow G6 34 0 noS).set4 0 rfl a6 n6 cc6; have l7 := E7.ld 0 rfl; have s7 := E7.sto 1 rfl; have HE7 := Lib.hid E7; clear hp E5 E6 G6 E7; dsimp only) | (refine step_app rfl (.tmp 13) (.tmp 16) 25 rfl rfl _ _ _ (by simp [Act.eval, Act.put]) (by simp [Act.eval, Act.put]) hrun ?_))
  all_goals go_wp2
  all_goals exact ((HE7.out.store 1 rfl _).fin (List.mem_cons_of_mem _ List.mem_cons_self) List.mem_cons_self rfl rfl)

set_option maxRecDepth 100000 in
set_option maxHeartbeats 4000000 in
theorem choice_false {d : Nat} {L : Low} (hL : LowC d L) {g : Nat} {s : PS} {w : World} (h : At g d s w) (hX : Gx g w) (hk : seesF ⟨#[101, 108, 115, 101]⟩ (L.st (parenF L s).2).2 = false) :
    Calls Tryz.prog 89 #[.pointer (some ⟨g, 0, none⟩)] w (PostN g d w (choiceF L s)) := by
  have E0 := (Env.start h hX).new zeroN
  have c0 := paren_any hL E0.at_ E0.gx
  have HE0 := Lib.hid E0
  unfold choiceF
  simp only
  rw [hk]
  clear E0 h hX
  go_enter Tryz.func89, Tryz.ntmps89
  go_wp2_with (first | (go_at_call 90; (with_reducible refine c0.mono ?_); intro e w1 hp; obtain ⟨N1, rfl, E1⟩ := HE0.out.callN hp; have c1 := hL.st E1.at_ E1.gx; have HE1 := Lib.hid E1; clear hp E1) | (go_at_call 44; (with_reducible refine c1.mono ?_); intro e w2 hp; obtain ⟨N2, rfl, E2⟩ := HE1.out.callN hp; have sg := run_stNk (W := (w2.alloc (.cells (ncells [N1, N2]).toArray 27)).alloc (.cells (ncs (kidN 34 (newSl w2.heap.size 2))) 27)) (b := w2.heap.size + 1 + 1) (by simp); have HE2 := Lib.hid E2; clear hp E2) | (go_at_call 22; (with_reducible refine (node_any _ _ _ _ _).mono ?_); rintro e wn ⟨rfl, rfl⟩) | (go_at_call 86; refine Hid.out ?_))
  refine Lib.hid ?_
  have E2 := HE2.out
  have r1 := E2.rp _ (List.mem_cons_of_mem _ List.mem_cons_self)
  have r2 := E2.rp _ List.mem_cons_self
  have G := GrowX.new (m := 2) (ts := [(parenF L s).1, (L.st (parenF L s).2).1]) (xs := [N1, N2]) (by unfold Reps; refine ⟨r1, ?_⟩; unfold Reps; exact ⟨r2, by unfold Reps; trivial⟩) E2.own_new E2.size rfl (by omega)
  have E3 := ((E2.kids2 (List.mem_cons_of_mem _ List.mem_cons_self) List.mem_cons_self 34 0 noS).alloc (.cells (ncs (kidN 34 (newSl w2.heap.size 2))) 27)).newAt (kidN 34 (newSl w2.heap.size 2)) (b := w2.heap.size + 1 + 1) (by simp)
  have c3 := takes_f E3.at_ hk
  have HE3 := Lib.hid E3
  have HG := Lib.hid ((G.alloc (.cells (ncs (kidN 34 (newSl w2.heap.size 2))) 27)).local (kidN 34 (newSl w2.heap.size 2)) (b := w2.heap.size + 1 + 1) (by simp))
  clear G E3 E2 r1 r2
  go_wp2_with ((go_at_call 86; (with_reducible refine c3.mono ?_); intro e w4 hp; obtain ⟨rfl, E4⟩ := HE3.out.call hp; have l4 := E4.ld 0 rfl; have s4 := E4.sto 1 rfl; have HE4 := Lib.hid E4; clear hp E4))
  exact ((HE4.out.store 1 rfl _).fin (List.mem_cons_of_mem _ List.mem_cons_self) List.mem_cons_self rfl rfl)

end Go.Proofs.YtkknglmpdmhhjaaGreatDoor.Pa
