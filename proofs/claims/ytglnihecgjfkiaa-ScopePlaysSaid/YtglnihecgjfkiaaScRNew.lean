/-
  The reference's Make and NewScopes, walked.
-/
import Derived.Test.YtglnihecgjfkiaaScRMake
namespace Go.Proofs.Ytglnihecgjfkiaa.Sc
open Go Go.RowKit Go.Maps
set_option linter.unusedVariables false
set_option linter.unusedSimpArgs false
attribute [local irreducible] vcs pcs

theorem infoI : (Try.prog.info? 3).map (fun i => (i.zero, i.size, i.bytes)) = some (some (.int .i64 0), 1, 8) := by kernel_rfl
theorem infoL : (Try.prog.info? 59).map (fun i => (i.zero, i.size, i.bytes)) = some (some (.slice none 0 0), 1, 24) := by kernel_rfl
/-- append by its run. -/
theorem wpList_app_run {P : Program} {ops : Array Oper} {rest : List Oper} {o : Oper} {a : Act} {w w' : World} {Q : Exit → Act → World → Prop} (hgd : o.guard = none) (s x : Operand) (t : TypeId) (ho : o.op = Op.call { callee := Callee.builtin Builtin.append, args := #[s, x], argTypes := #[t, t] }) (ht : o.type = t)
    (v1 v2 v' : Value) (hs : a.eval s = v1) (hx : a.eval x = v2) (hrun : (Builtin.append_ #[t, t] t #[v1, v2]).run P w = .ok v' w') (h : wpList P ops Q rest (a.put o.dst v') w') : wpList P ops Q (o :: rest) a w := by
  refine wpList_plain hgd fun K hK => ?_
  subst ht
  unfold Oper.wp
  simp [execOp, ho, resolve, invoke, builtin, hs, hx, hrun, Result.andThen]
  exact hK _ _ h
section
variable {base : Nat} {X : Nat → Prop} {w w' : World} {rb : Nat} {S : List Sco} {ap : Option Addr} {cp : Nat} {al : Option Addr} {cl : Nat} {hv : Nat → Value}
/-- Both appends, and what they leave. -/
theorem rmake_app (h : RAt base X w rb S ap cp al cl hv) (hl : S.length ≤ 1000) {p : Int} (hp0 : -1 ≤ p) (hp : p < S.length) :
    ∃ gp cp' W2, (Builtin.append_ #[46, 46] 46 #[.slice ap S.length cp, .slice (some ⟨w.heap.size, 0, none⟩) 1 1]).run Try.prog (w.alloc (.cells #[.int .i64 p] 3)) = .ok (.slice (some ⟨gp, 0, none⟩) (S.length + 1) cp') W2 ∧
      W2.cell? ⟨rb, 0, none⟩ = some (.slice ap S.length cp) ∧ W2.frozen? ⟨rb, 0, none⟩ = false ∧
    ∃ W3, W2.setCell ⟨rb, 0, none⟩ (.slice (some ⟨gp, 0, none⟩) (S.length + 1) cp') = W3 ∧ W3.cell? ⟨rb, 1, none⟩ = some (.slice al S.length cl) ∧
    ∃ gl cl' W5, (Builtin.append_ #[47, 47] 47 #[.slice al S.length cl, .slice (some ⟨W3.heap.size, 0, none⟩) 1 1]).run Try.prog (W3.alloc (.cells #[.slice none 0 0] 59)) = .ok (.slice (some ⟨gl, 0, none⟩) (S.length + 1) cl') W5 ∧
      W5.cell? ⟨rb, 1, none⟩ = some (.slice al S.length cl) ∧ W5.frozen? ⟨rb, 1, none⟩ = false ∧
      ∃ X', RIs base X' (W5.setCell ⟨rb, 1, none⟩ (.slice (some ⟨gl, 0, none⟩) (S.length + 1) cl')) rb (S ++ [⟨p, []⟩]) ∧ Step X X' w (W5.setCell ⟨rb, 1, none⟩ (.slice (some ⟨gl, 0, none⟩) (S.length + 1) cl')) := by
  obtain ⟨ti, hti, iz0, iz1, iz2⟩ := info_parts infoI
  obtain ⟨tl, htl, lz0, lz1, lz2⟩ := info_parts infoL
  have hlow := h.lowb
  have hd := h.head.lt
  obtain ⟨w1, hw1⟩ : ∃ w1, w.alloc (.cells #[.int .i64 p] 3) = w1 := ⟨_, rfl⟩
  have k1 : w1.heap.size = w.heap.size + 1 := by rw [← hw1]; simp
  obtain ⟨v', W2, hrun2, hown2, hg2, _, hat2⟩ := run_append_own_at (P := Try.prog) (w.alloc (.cells #[.int .i64 p] 3)) base 46 46 3 ti (.int .i64 0) 1 8 Try.underlying46 hti iz0 iz1 iz2 rfl (by decide) (.slice ap S.length cp) S.length _ (h.prow.alloc _) ⟨w.heap.size, 0, none⟩ 1 1 [.int .i64 p] rfl (cell_one w (.int .i64 p) 3) (by simp [Value.oneCell']) (by unfold maxLen; omega) (by omega) (by simp; omega)
  obtain ⟨gp, cp', rfl⟩ := ownsRow_succ hown2
  rw [hw1] at hg2 hat2
  have st2 : ∀ b, b < w.heap.size → some b ≠ (Value.slice ap S.length cp).ownBlock → W2.heap[b]? = w.heap[b]? := fun b hb hne => by
    rw [hg2.block b (by omega) hne, ← hw1, heap_alloc_old _ _ hb]
  have k2 := hg2.size
  have np : ∀ {b : Nat} {cs : Array Value} {t : TypeId}, Blk w b cs t → t ≠ 3 → some b ≠ (Value.slice ap S.length cp).ownBlock := fun hb ht e => own_ne h.prow hb ht e.symm
  have head2 : Blk W2 rb (rhd (.slice ap S.length cp) (.slice al S.length cl)) 49 := (st2 rb hd (np h.head (by decide))).trans h.head
  have toW2 : ∀ {e : TypeId} {sz n : Nat} {v : Value} {xs : List Value}, w.ownsRow base e sz v n xs → e ≠ 3 → W2.ownsRow base e sz v n xs := fun ho he => own_same ho fun g hgv => st2 g (ho.lt g hgv).2 fun e2 => by
    rcases own_two ho h.prow he with h1 | h1
    · rw [hgv] at h1; cases h1
    · exact h1 (by rw [hgv, e2])
  obtain ⟨W3, hW3⟩ : ∃ W3, W2.setCell ⟨rb, 0, none⟩ (.slice (some ⟨gp, 0, none⟩) (S.length + 1) cp') = W3 := ⟨_, rfl⟩
  have k3 : W3.heap.size = W2.heap.size := by rw [← hW3]; simp [World.setCell]
  have st3 : ∀ b, b ≠ rb → W3.heap[b]? = W2.heap[b]? := fun b hne => by rw [← hW3]; exact heap_setCell_other W2 ⟨rb, 0, none⟩ b _ hne
  have head3 : Blk W3 rb (rhd (.slice (some ⟨gp, 0, none⟩) (S.length + 1) cp') (.slice al S.length cl)) 49 := by rw [← hW3]; exact head2.set 0 _
  have toW3 : ∀ {e : TypeId} {sz n : Nat} {v : Value} {xs : List Value}, W2.ownsRow base e sz v n xs → e ≠ 49 → W3.ownsRow base e sz v n xs := fun ho he => own_same ho fun g hgv => st3 g fun e2 => own_ne ho head2 (fun e3 => he e3.symm) (by rw [hgv, e2])
  have l3 := toW3 (toW2 h.lrow (by decide)) (by decide)
  have p3 := toW3 hown2 (by decide)
  obtain ⟨v5, W5, hrun5, hown5, hg5, _, hat5⟩ := run_append_own_at (P := Try.prog) (W3.alloc (.cells #[.slice none 0 0] 59)) base 47 47 59 tl (.slice none 0 0) 1 24 Try.underlying47 htl lz0 lz1 lz2 rfl (by decide) (.slice al S.length cl) S.length _ (l3.alloc _) ⟨W3.heap.size, 0, none⟩ 1 1 [.slice none 0 0] rfl (cell_one W3 (.slice none 0 0) 59) (by simp [Value.oneCell']) (by unfold maxLen; omega) (by omega) (by simp; omega)
  obtain ⟨gl, cl', rfl⟩ := ownsRow_succ hown5
  have ks : (W3.alloc (.cells #[.slice none 0 0] 59)).heap.size = W3.heap.size + 1 := by simp
  have st5 : ∀ b, b < W3.heap.size → some b ≠ (Value.slice al S.length cl).ownBlock → W5.heap[b]? = W3.heap[b]? := fun b hb hne => by
    rw [hg5.block b (by omega) hne, heap_alloc_old _ _ hb]
  have k5 := hg5.size
  have toW5 : ∀ {e : TypeId} {sz n : Nat} {v : Value} {xs : List Value}, W3.ownsRow base e sz v n xs → e ≠ 59 → W5.ownsRow base e sz v n xs := fun ho he => own_same ho fun g hgv => st5 g (ho.lt g hgv).2 fun e2 => by
    rcases own_two ho l3 he with h1 | h1
    · rw [hgv] at h1; cases h1
    · exact h1 (by rw [hgv, e2])
  have head5 : Blk W5 rb (rhd (.slice (some ⟨gp, 0, none⟩) (S.length + 1) cp') (.slice al S.length cl)) 49 := (st5 rb head3.lt fun e => own_ne l3 head3 (by decide) e.symm).trans head3
  refine ⟨gp, cp', W2, hrun2, head2.cell 0, head2.frozen 0, W3, hW3, head3.cell 1, gl, cl', W5, hrun5, head5.cell 1, head5.frozen 1, ?_⟩
  obtain ⟨W6, hW6⟩ : ∃ W6, W5.setCell ⟨rb, 1, none⟩ (.slice (some ⟨gl, 0, none⟩) (S.length + 1) cl') = W6 := ⟨_, rfl⟩
  have k6 : W6.heap.size = W5.heap.size := by rw [← hW6]; simp [World.setCell]
  have st6 : ∀ b, b ≠ rb → W6.heap[b]? = W5.heap[b]? := fun b hne => by rw [← hW6]; exact heap_setCell_other W5 ⟨rb, 1, none⟩ b _ hne
  have head6 : Blk W6 rb (rhd (.slice (some ⟨gp, 0, none⟩) (S.length + 1) cp') (.slice (some ⟨gl, 0, none⟩) (S.length + 1) cl')) 49 := by rw [← hW6]; exact head5.set 1 _
  have toW6 : ∀ {e : TypeId} {sz n : Nat} {v : Value} {xs : List Value}, W5.ownsRow base e sz v n xs → e ≠ 49 → W6.ownsRow base e sz v n xs := fun ho he => own_same ho fun g hgv => st6 g fun e2 => own_ne ho head5 (fun e3 => he e3.symm) (by rw [hgv, e2])
  have p6 := toW6 (toW5 p3 (by decide)) (by decide)
  have l6 := toW6 hown5 (by decide)
  have hlen : (S ++ [(⟨p, []⟩ : Sco)]).length = S.length + 1 := by simp
  have two : ∀ (i : Nat) (sc : Sco), (S ++ [(⟨p, []⟩ : Sco)])[i]? = some sc → (i < S.length ∧ S[i]? = some sc) ∨ (i = S.length ∧ sc = ⟨p, []⟩) := fun i sc hi => by
    by_cases e : i < S.length
    · rw [List.getElem?_append_left e] at hi
      exact .inl ⟨e, hi⟩
    · by_cases e2 : i = S.length
      · subst e2
        simp at hi
        exact .inr ⟨rfl, hi.symm⟩
      · rw [List.getElem?_eq_none (by simp; omega)] at hi
        cases hi
  have stay : ∀ b, b < w.heap.size → ¬ X b → W6.heap[b]? = w.heap[b]? := fun b hb hx => by
    have hne : b ≠ rb := fun e => hx (by rw [e]; exact h.xh)
    rw [st6 b hne, st5 b (by omega) (fun e => hx (h.xl b e.symm)), st3 b hne]
    exact st2 b hb fun e => hx (h.xp b e.symm)
  have hfr : Fr w W6 := by
    rw [← hW6]
    have f2 : Fr w W2 := (by rw [← hw1]; exact (Fr.refl w).alloc _ : Fr w w1).grown hg2
    have f3 : Fr w W3 := by rw [← hW3]; exact f2.set _ _
    exact ((f3.alloc _).grown hg5).set _ _
  rw [hW6]
  refine ⟨Also X w W6, ⟨some ⟨gp, 0, none⟩, cp', some ⟨gl, 0, none⟩, cl', fun k => if k = S.length then .slice none 0 0 else hv k, ?_, ?_, ?_, fun k sk hk => ?_, h.par.snoc hp0 hp [], fun k m g hk hm hgk hgm => ?_, fun b hb => ?_, by omega, .inl h.xh, fun g hgv => ?_, fun g hgv => ?_, fun k g hk hgv => ?_⟩, ⟨hfr, stay, also_more⟩⟩
  · rw [hlen]; exact head6
  · rw [hlen, List.map_append]; exact p6
  · rw [hlen, List.range_succ, List.map_append]
    have e1 : (List.range S.length).map (fun k => (fun k => if k = S.length then Value.slice none 0 0 else hv k) k) = (List.range S.length).map hv := by
      apply List.map_congr_left
      intro i hi
      have : ¬ i = S.length := by have := List.mem_range.1 hi; omega
      simp [this]
    rw [e1]
    simpa using l6
  · rcases two k sk hk with ⟨hlt, h1⟩ | ⟨rfl, rfl⟩
    · have hn : ¬ k = S.length := by omega
      rw [if_neg hn]
      exact toW6 (toW5 (toW3 (toW2 (h.vrow k sk h1) (by decide)) (by decide)) (by decide)) (by decide)
    · rw [if_pos rfl]
      exact World.ownsRow_nil _ _ _ _
  · rw [hlen] at hk hm
    by_cases e1 : k = S.length
    · simp [e1, Value.ownBlock] at hgk
    · by_cases e2 : m = S.length
      · simp [e2, Value.ownBlock] at hgm
      · simp only [if_neg e1] at hgk
        simp only [if_neg e2] at hgm
        exact h.inj k m g (by omega) (by omega) hgk hgm
  · exact hb.elim (fun hx => ⟨(h.low b hx).1, by have := (h.low b hx).2; omega⟩) (fun hx => ⟨Nat.le_trans hlow hx.1, hx.2⟩)
  · rw [hlen] at hgv
    have e : g = gp := by simpa [Value.ownBlock] using hgv.symm
    subst e
    have hlt := (p6.lt g rfl).2
    rcases hat2 with e | e
    · exact .inl (h.xp g (by rw [← e]; rfl))
    · have : g = w1.heap.size := by simpa [Value.ownBlock] using e
      exact .inr ⟨by omega, hlt⟩
  · rw [hlen] at hgv
    have e : g = gl := by simpa [Value.ownBlock] using hgv.symm
    subst e
    have hlt := (l6.lt g rfl).2
    rcases hat5 with e | e
    · exact .inl (h.xl g (by rw [← e]; rfl))
    · rw [ks] at e
      have : g = W3.heap.size + 1 := by simpa [Value.ownBlock] using e
      exact .inr ⟨by omega, hlt⟩
  · rw [hlen] at hk
    by_cases e : k = S.length
    · simp [e, Value.ownBlock] at hgv
    · rw [if_neg e] at hgv
      exact .inl (h.xv k g (by omega) hgv)
set_option maxRecDepth 100000 in
set_option maxHeartbeats 4000000 in
theorem rmake_any (h : RAt base X w rb S ap cp al cl hv) (p : Int) (hl : S.length ≤ 1000) :
    Calls Try.prog 11 #[ptr rb, .int .i64 p] w (EndsR base X rb w (.int .i64 (makeF S p).1) (makeF S p).2) := by
  have hth := there_any h p
  by_cases ht : there S p = true
  · have e1 : makeF S p = ((S.length : Int), S ++ [⟨p, []⟩]) := by simp [makeF, ht]
    rw [e1]
    rw [ht] at hth
    have hpp := there_iff.1 ht
    have c0 : w.cell? ⟨rb, 0, none⟩ = some (.slice ap S.length cp) := h.head.cell 0
    obtain ⟨gp, cp', W2, r2, d1, d2, W3, hW3, d3, gl, cl', W5, r5, d4, d5, X', k1, k2⟩ := rmake_app h hl (p := p) (by omega) hpp.2
    have HE : Hid (∀ z : Int, z = S.length → EndsR base X rb w (.int .i64 S.length) (S ++ [⟨p, []⟩]) (.returned (.int .i64 z)) (W5.setCell ⟨rb, 1, none⟩ (.slice (some ⟨gl, 0, none⟩) (S.length + 1) cl'))) := Lib.hid fun z hz => ⟨by rw [hz], X', k1, k2⟩
    obtain ⟨N, hN⟩ : ∃ N, S.length = N := ⟨_, rfl⟩
    rw [hN] at c0 r2 d1 d3 r5 d4 hl HE hW3
    have hlen : wrap64 (N : Int) = N := by unfold wrap64; omega
    rw [hN]
    clear h ht e1 hpp k1 k2 hN hl
    go_enter Try.func11, Try.ntmps11
    go_wp2_with (first | (go_at_call 21; refine hth.mono ?_; rintro e w2 ⟨rfl, hw2⟩; subst w2) | (at_builtin; refine wpList_app_run rfl (.tmp 13) (.tmp 15) 46 rfl rfl _ _ _ rfl rfl r2 ?_) | (at_builtin; refine wpList_app_run rfl (.tmp 23) (.tmp 24) 47 rfl rfl _ _ _ rfl rfl r5 ?_))
    go_ret
    exact HE.out _ hlen
  · have e0 : there S p = false := by simpa using ht
    have e1 : makeF S p = (-1, S) := by simp [makeF, ht]
    rw [e1]
    rw [e0] at hth
    have HE := Lib.hid (h.ends (r := .int .i64 (-1)) (Below.refl _ w))
    clear h ht e1 e0
    go_enter Try.func11, Try.ntmps11
    go_wp2_with (go_at_call 21; refine hth.mono ?_; rintro e w2 ⟨rfl, hw2⟩; subst w2)
    go_ret
    exact HE.out
end
end Go.Proofs.Ytglnihecgjfkiaa.Sc
