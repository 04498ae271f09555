/-
  The program's call Make, walked.
-/
import Derived.Test.YtglnihecgjfkiaaScLet
namespace Go.Proofs.Ytglnihecgjfkiaa.Sc
open Go Go.RowKit Go.Maps
set_option linter.unusedVariables false
set_option linter.unusedSimpArgs false
attribute [local go_sem ↓] ldV stV alV bxV bxP bdV bdP
attribute [local irreducible] vcs pcs
attribute [local go_sem] run_bx run_alV run_bd0

/-- What within leaves. -/
structure Wi (w : World) (p : Option Addr) (w' : World) : Prop where
  map : MapIs w' w.heap.size 0 (fun _ => none)
  blk : Blk w' (w.heap.size + 1) (ssc p w.heap.size) 54
  bel : Below w.heap.size w w'
  size : w'.heap.size = w.heap.size + 2
theorem within_wi (p : Option Addr) (w : World) : Calls Try.prog 19 #[.pointer p] w fun e w' => e = .returned (ptr (w.heap.size + 1)) ∧ Wi w p w' := by
  refine (within_any p w).mono ?_
  rintro e w' ⟨rfl, rfl⟩
  have k1 : (w.alloc (.map #[] 0)).heap.size = w.heap.size + 1 := by simp
  have b := Blk.new (w.alloc (.map #[] 0)) (ssc p w.heap.size) 54
  rw [k1] at b
  exact ⟨rfl, (MapIs.made w).old _, b, ((Below.refl _ w).alloc (Nat.le_refl _) _).alloc (by simp) _, by simp⟩
theorem infoS : (Try.prog.info? 41).map (fun i => (i.zero, i.size, i.bytes)) = some (some (.pointer none), 1, 8) := by kernel_rfl
theorem ownsRow_succ {W : World} {base : Nat} {e : TypeId} {size : Nat} {v : Value} {k : Nat} {xs : List Value} (h : W.ownsRow base e size v (k + 1) xs) : ∃ g cap, v = .slice (some ⟨g, 0, none⟩) (k + 1) cap := by
  rcases h.2 with ⟨_, h0⟩ | ⟨g, cap, cur, rfl, _⟩
  · omega
  · exact ⟨g, cap, rfl⟩
/-- append, as one step of a region that draws. -/
theorem step_app {P : Program} {ops : Array Oper} {o : Oper} {a : Act} {w w' : World} {K : Act → World → Prop} {Q : Exit → Act → World → Prop} {E : Prop} (hg : o.guard = none) (s x : Operand) (t : TypeId) (hop : o.op = Op.call { callee := Callee.builtin Builtin.append, args := #[s, x], argTypes := #[t, t] }) (ht : o.type = t)
    (v1 v2 v' : Value) (hs : a.eval s = v1) (hx : a.eval x = v2) (hrun : (Builtin.append_ #[t, t] t #[v1, v2]).run P w = .ok v' w') (hK : K (a.put o.dst v') w') : if Region.wanted o (yielded ops a.tmps) = true then Oper.wp P o a w K Q else E := by
  have hw : Region.wanted o (yielded ops a.tmps) = true := by simp [Region.wanted, hg]
  rw [if_pos hw]
  subst ht
  unfold Oper.wp
  simp [execOp, hop, resolve, invoke, builtin, hs, hx, hrun, Result.andThen]
  exact hK
section
variable {base : Nat} {X : Nat → Prop} {hb : Nat} {S : List Sco} {sb mb : Nat → Nat} {vb : Nat → Nat → Nat} {a : Option Addr} {c : Nat}
theorem pblk_new (sb : Nat → Nat) {p : Int} {n x : Nat} (h : p < n) : pblk (fun k => if k = n then x else sb k) p = pblk sb p := by
  unfold pblk
  by_cases h0 : p < 0
  · rw [if_pos h0, if_pos h0]
  · rw [if_neg h0, if_neg h0]
    have : ¬ p.toNat = n := by omega
    simp [this]
/-- A scope has come. -/
theorem PAt.addSco {w W W2 W4 : World} (h : PAt base X w hb S sb mb vb a c) {p : Int} (hp0 : -1 ≤ p) (hp : p < S.length) (hW : W.heap = w.heap) (hF : Fr w W) (h2 : Wi W (pto (pblk sb p)) W2) {g' c' : Nat}
    (hown : W4.ownsRow base 41 1 (.slice (some ⟨g', 0, none⟩) (S.length + 1) c') (S.length + 1) (((List.range S.length).map fun i => ptr (sb i)) ++ [ptr (w.heap.size + 1)]))
    (hg : (W2.alloc (.cells #[ptr (w.heap.size + 1)] 41)).grownBy W4 (Value.slice a S.length c).ownBlock) (hat : g' = (w.heap.size + 3) ∨ (Value.slice a S.length c).ownBlock = some g') :
    Ends base X hb w (.int .i64 S.length) (S ++ [⟨p, []⟩]) (.returned (.int .i64 S.length)) (W4.setCell ⟨hb, 0, none⟩ (.slice (some ⟨g', 0, none⟩) (S.length + 1) c')) := by
  have hsz : W.heap.size = w.heap.size := by rw [hW]
  have k2 := h2.size
  rw [hsz] at k2
  have k3 : (W2.alloc (.cells #[ptr (w.heap.size + 1)] 41)).heap.size = w.heap.size + 3 := by simp [k2]
  have k4 := hg.size
  rw [k3] at k4
  have m2 := h2.map
  have b2 := h2.blk
  rw [hsz] at m2 b2
  -- old blocks but the row's stay up to W4
  have st4 : ∀ b, b < w.heap.size → some b ≠ (Value.slice a S.length c).ownBlock → W4.heap[b]? = w.heap[b]? := fun b hb hne => by
    rw [hg.block b (by omega) hne, heap_alloc_old _ _ (by omega), h2.bel.block b (by omega), hW]
  have rowX : ∀ {b : Nat}, some b = (Value.slice a S.length c).ownBlock → X b := fun e => h.xr _ e.symm
  have nrow : ∀ {b : Nat} {cs : Array Value} {t : TypeId}, Blk w b cs t → t ≠ 41 → some b ≠ (Value.slice a S.length c).ownBlock := fun hbk ht e => own_ne h.row hbk ht e.symm
  have nhead : ∀ {b : Nat} {cs : Array Value} {t : TypeId}, Blk w b cs t → t ≠ 45 → b ≠ hb := fun hbk ht => ne_blk hbk h.head ht
  obtain ⟨W5, hW5⟩ : ∃ W5, W4.setCell ⟨hb, 0, none⟩ (.slice (some ⟨g', 0, none⟩) (S.length + 1) c') = W5 := ⟨_, rfl⟩
  have k5 : W5.heap.size = W4.heap.size := by rw [← hW5]; simp [World.setCell]
  have st5 : ∀ b, b ≠ hb → W5.heap[b]? = W4.heap[b]? := fun b hne => by rw [← hW5]; exact heap_setCell_other W4 ⟨hb, 0, none⟩ b _ hne
  have stay : ∀ b, b < w.heap.size → b ≠ hb → some b ≠ (Value.slice a S.length c).ownBlock → W5.heap[b]? = w.heap[b]? := fun b hlt hne hnr => (st5 b hne).trans (st4 b hlt hnr)
  have keep : ∀ {b : Nat} {cs : Array Value} {t : TypeId}, Blk w b cs t → t ≠ 41 → t ≠ 45 → W5.heap[b]? = w.heap[b]? := fun hbk h1 h3 => stay _ hbk.lt (nhead hbk h3) (nrow hbk h1)
  have keepm : ∀ {m n : Nat} {f : ByteArray → Option Nat}, MapIs w m n f → W5.heap[m]? = w.heap[m]? := fun hm => stay _ hm.lt (hm.not_blk h.head).symm fun e => hm.not_own h.row e.symm
  have fresh : ∀ b, w.heap.size ≤ b → b < w.heap.size + 2 → W5.heap[b]? = W2.heap[b]? := fun b h1 h3 => by
    have hh := h.head.lt
    rw [st5 b (by omega), hg.block b (by omega) (fun e => by have := (h.row.lt b e.symm).2; omega), heap_alloc_old _ _ (by omega)]
  have head4 : Blk W4 hb (shd a S.length c) 45 := (st4 hb h.head.lt (nrow h.head (by decide))).trans h.head
  have head5 : Blk W5 hb (shd (some ⟨g', 0, none⟩) (S.length + 1) c') 45 := by rw [← hW5]; exact head4.set 0 _
  have own5 : W5.ownsRow base 41 1 (.slice (some ⟨g', 0, none⟩) (S.length + 1) c') (S.length + 1) (((List.range S.length).map fun i => ptr (sb i)) ++ [ptr (w.heap.size + 1)]) :=
    own_same hown fun g hgg => st5 g fun e => own_ne hown head4 (by decide) (by rw [hgg, e])
  have hfr : Fr w W5 := by rw [← hW5]; exact (((hF.below h2.bel).alloc _).grown hg).set _ _
  have hlen : (S ++ [(⟨p, []⟩ : Sco)]).length = S.length + 1 := by simp
  have two : ∀ (i : Nat) (sc : Sco), (S ++ [(⟨p, []⟩ : Sco)])[i]? = some sc → (i < S.length ∧ S[i]? = some sc) ∨ (i = S.length ∧ sc = ⟨p, []⟩) := fun i sc hi => by
    by_cases e : i < S.length
    · rw [List.getElem?_append_left e] at hi
      exact .inl ⟨e, hi⟩
    · by_cases e2 : i = S.length
      · subst e2
        simp at hi
        exact .inr ⟨rfl, hi.symm⟩
      · rw [List.getElem?_eq_none (by simp; omega)] at hi
        cases hi
  have lowb := h.lowb
  rw [hW5]
  refine ⟨rfl, ⟨fun k => if k = S.length then w.heap.size + 1 else sb k, fun k => if k = S.length then w.heap.size else mb k, vb, some ⟨g', 0, none⟩, c', ?_, ?_, fun i sc hi => ?_, h.par.snoc hp0 hp [], fun i sc hi => ?_, fun i j sc va hi hj => ?_, fun i j i' j' sc sc' va va' hi hj hi' hj' e => ?_, fun i i' hi hi' e => ?_, fun b hb' => ?_, .inl h.xh, fun g hgg => ?_, fun i hi => ?_, fun i hi => ?_, fun i j sc va hi hj => ?_⟩, ⟨hfr, fun b hlt hx => stay b hlt (fun e => hx (by rw [e]; exact h.xh)) (fun e => hx (rowX e)), also_more⟩⟩
  · rw [hlen]; exact head5
  · rw [hlen, List.range_succ, List.map_append]
    have e1 : (List.range S.length).map (fun i => ptr ((fun k => if k = S.length then w.heap.size + 1 else sb k) i)) = (List.range S.length).map fun i => ptr (sb i) := by
      apply List.map_congr_left
      intro i hi
      have : ¬ i = S.length := by have := List.mem_range.1 hi; omega
      simp [this]
    rw [e1]
    simpa using own5
  · rcases two i sc hi with ⟨hlt, h1⟩ | ⟨rfl, rfl⟩
    · have hn : ¬ i = S.length := by omega
      have := h.par i sc h1
      rw [pblk_new sb (by omega), if_neg hn, if_neg hn]
      exact (keep (h.sco i sc h1) (by decide) (by decide)).trans (h.sco i sc h1)
    · rw [pblk_new sb hp, if_pos rfl, if_pos rfl]
      exact (fresh _ (by omega) (by omega)).trans b2
  · rcases two i sc hi with ⟨hlt, h1⟩ | ⟨rfl, rfl⟩
    · have hn : ¬ i = S.length := by omega
      rw [if_neg hn]
      exact (h.map i sc h1).same (keepm (h.map i sc h1))
    · rw [if_pos rfl]
      exact (m2.same (fresh _ (Nat.le_refl _) (by omega))).congr fun s => rfl
  · rcases two i sc hi with ⟨hlt, h1⟩ | ⟨rfl, rfl⟩
    · exact (keep (h.var i j sc va h1 hj) (by decide) (by decide)).trans (h.var i j sc va h1 hj)
    · simp at hj
  · rcases two i sc hi with ⟨hlt, h1⟩ | ⟨rfl, rfl⟩
    · rcases two i' sc' hi' with ⟨hlt', h1'⟩ | ⟨rfl, rfl⟩
      · exact h.vinj i j i' j' sc sc' va va' h1 hj h1' hj' e
      · simp at hj'
    · simp at hj
  · rw [hlen] at hi hi'
    have ml : ∀ k, k < S.length → mb k < w.heap.size := fun k hk => (h.map k S[k] (List.getElem?_eq_getElem hk)).lt
    by_cases e1 : i = S.length
    · by_cases e2 : i' = S.length
      · omega
      · simp only [e1, if_true, if_neg e2] at e
        have := ml i' (by omega)
        omega
    · by_cases e2 : i' = S.length
      · simp only [e2, if_true, if_neg e1] at e
        have := ml i (by omega)
        omega
      · simp only [if_neg e1, if_neg e2] at e
        exact h.minj i i' (by omega) (by omega) e
  · exact hb'.elim (fun hx => ⟨(h.low b hx).1, Nat.lt_of_lt_of_le (h.low b hx).2 hfr.size⟩) (fun hx => ⟨Nat.le_trans lowb hx.1, hx.2⟩)
  · have e : g = g' := by simpa [Value.ownBlock] using hgg.symm
    subst e
    rcases hat with e | e
    · subst e
      have := (own5.lt _ hgg).2
      exact .inr ⟨by omega, this⟩
    · exact .inl (h.xr _ e)
  · rw [hlen] at hi
    by_cases e : i = S.length
    · rw [if_pos e]; exact .inr ⟨by omega, by omega⟩
    · rw [if_neg e]; exact .inl (h.xs i (by omega))
  · rw [hlen] at hi
    by_cases e : i = S.length
    · rw [if_pos e]; exact .inr ⟨by omega, by omega⟩
    · rw [if_neg e]; exact .inl (h.xm i (by omega))
  · rcases two i sc hi with ⟨hlt, h1⟩ | ⟨rfl, rfl⟩
    · exact .inl (h.xv i j sc va h1 hj)
    · simp at hj
/-- append, and what it leaves. -/
theorem make_app {w W W2 : World} (h : PAt base X w hb S sb mb vb a c) (hl : S.length ≤ 1000) {p : Int} (hp0 : -1 ≤ p) (hp : p < S.length) (hW : W.heap = w.heap) (hF : Fr w W) (h2 : Wi W (pto (pblk sb p)) W2) :
    ∃ g' c' W4, (Builtin.append_ #[43, 43] 43 #[.slice a S.length c, .slice (some ⟨W2.heap.size, 0, none⟩) 1 1]).run Try.prog (W2.alloc (.cells #[.pointer (some ⟨w.heap.size + 1, 0, none⟩)] 41)) = .ok (.slice (some ⟨g', 0, none⟩) (S.length + 1) c') W4 ∧
      W4.cell? ⟨hb, 0, none⟩ = some (.slice a S.length c) ∧ W4.frozen? ⟨hb, 0, none⟩ = false ∧ Ends base X hb w (.int .i64 S.length) (S ++ [⟨p, []⟩]) (.returned (.int .i64 S.length)) (W4.setCell ⟨hb, 0, none⟩ (.slice (some ⟨g', 0, none⟩) (S.length + 1) c')) := by
  obtain ⟨i, hi, hz0, hz1, hz2⟩ := info_parts infoS
  have hsz : W.heap.size = w.heap.size := by rw [hW]
  have k2 := h2.size
  rw [hsz] at k2
  have hrow2 : W2.ownsRow base 41 1 (.slice a S.length c) S.length ((List.range S.length).map fun i => ptr (sb i)) := own_same h.row fun g hg => by
    have := (h.row.lt g hg).2
    rw [h2.bel.block g (by omega), hW]
  have hbase := h.lowb
  obtain ⟨v', W4, hrun, hown4, hgrow4, _, hat⟩ := run_append_own_at (P := Try.prog) (W2.alloc (.cells #[ptr (w.heap.size + 1)] 41)) base 43 43 41 i (.pointer none) 1 8 Try.underlying43 hi hz0 hz1 hz2 rfl (by decide) (.slice a S.length c) S.length _ (hrow2.alloc _) ⟨W2.heap.size, 0, none⟩ 1 1 [ptr (w.heap.size + 1)] rfl (cell_one W2 (ptr (w.heap.size + 1)) 41) (by simp [Value.oneCell']) (by unfold maxLen; omega) (by omega) (by simp; omega)
  obtain ⟨g', c', rfl⟩ := ownsRow_succ hown4
  have hat2 : g' = w.heap.size + 3 ∨ (Value.slice a S.length c).ownBlock = some g' := by
    have k3 : (W2.alloc (.cells #[ptr (w.heap.size + 1)] 41)).heap.size = w.heap.size + 3 := by simp [k2]
    rcases hat with e | e
    · right; rw [← e]; rfl
    · left
      rw [k3] at e
      simpa [Value.ownBlock] using e
  have head4 : Blk W4 hb (shd a S.length c) 45 := by
    refine (hgrow4.block hb (by have := h.head.lt; simp; omega) fun e => own_ne h.row h.head (by decide) e.symm).trans ?_
    rw [heap_alloc_old _ _ (by have := h.head.lt; omega), h2.bel.block hb (by have := h.head.lt; omega), hW]
    exact h.head
  exact ⟨g', c', W4, hrun, head4.cell 0, head4.frozen 0, h.addSco hp0 hp hW hF h2 hown4 hgrow4 hat2⟩
theorem ends_z {w w' : World} {r : Value} {n : Int} {T : List Sco} (h : Ends base X hb w r T (.returned (.int .i64 n)) w') : ∀ z : Int, z = n → Ends base X hb w r T (.returned (.int .i64 z)) w' := fun z hz => by rw [hz]; exact h
set_option maxRecDepth 100000 in
set_option maxHeartbeats 2000000 in
theorem make_any {w : World} (h : PAt base X w hb S sb mb vb a c) (p : Int) (hl : S.length ≤ 1000) :
    Calls Try.prog 10 #[ptr hb, .int .i64 p] w (Ends base X hb w (.int .i64 (makeF S p).1) (makeF S p).2) := by
  have hsc := scope_any h p
  by_cases ht : there S p = true
  · have e1 : makeF S p = ((S.length : Int), S ++ [⟨p, []⟩]) := by simp [makeF, ht]
    rw [e1]
    have hpp := there_iff.1 ht
    obtain ⟨i, rfl⟩ : ∃ i : Nat, p = i := ⟨p.toNat, by omega⟩
    have e2 : sptr S sb i = some (sb i) := sptr_nat sb (by omega)
    rw [e2] at hsc
    replace hsc : Calls Try.prog 20 #[ptr hb, .int .i64 i] w fun e w' => e = .returned (.pointer (some ⟨sb i, 0, none⟩)) ∧ w' = w := hsc
    have c1 : w.cell? ⟨hb, 0, none⟩ = some (.slice a S.length c) := h.head.cell 0
    have hwi := within_wi (pto (pblk sb i)) w.drew
    rw [pblk_nat] at hwi
    replace hwi : Calls Try.prog 19 #[.pointer (some ⟨sb i, 0, none⟩)] w.drew fun e w' => e = .returned (ptr (w.drew.heap.size + 1)) ∧ Wi w.drew (pto (some (sb i))) w' := hwi
    have happ : ∀ W2, Wi w.drew (pto (some (sb i))) W2 → _ := fun W2 h2 => make_app (W := w.drew) h hl (p := i) (by omega) hpp.2 rfl (Fr.refl w).drew (by rw [pblk_nat]; exact h2)
    have hcell : ∀ W2, Wi w.drew (pto (some (sb i))) W2 → Blk W2 hb (shd a S.length c) 45 := fun W2 h2 => Blk.call (w := w.drew) h.head h2.bel
    have HA := Lib.hid happ
    have HC := Lib.hid hcell
    obtain ⟨N, hN⟩ : ∃ N, S.length = N := ⟨_, rfl⟩
    rw [hN] at c1 hl HA HC
    have hlen : wrap64 (N : Int) = N := by unfold wrap64; omega
    rw [hN]
    clear h ht e1 hpp e2 happ hcell hN hl
    go_enter Try.func10, Try.ntmps10
    go_wp2_with (go_at_call 20; refine hsc.mono ?_; rintro e w2 ⟨rfl, hw2⟩; subst w2)
    go_region_law (first | (go_simp; go_at_call 19; refine hwi.mono ?_; rintro e W2 ⟨rfl, h2⟩; obtain ⟨g', c', W4, hrun, d1, d2, hend⟩ := HA.out W2 h2; have e1 : W2.cell? ⟨hb, 0, none⟩ = some (.slice a N c) := (HC.out W2 h2).cell 0; have e2 : (W2.alloc (.cells #[.pointer (some ⟨w.heap.size + 1, 0, none⟩)] 41)).cell? ⟨hb, 0, none⟩ = some (.slice a N c) := ((HC.out W2 h2).old _).cell 0; have HE := Lib.hid (ends_z hend); clear hend h2; dsimp only) | (refine step_app rfl (.tmp 15) (.tmp 18) 43 rfl rfl _ _ _ (by simp [Act.eval, Act.put]) (by simp [Act.eval, Act.put]) hrun ?_))
    all_goals go_wp2
    all_goals go_ret
    all_goals exact HE.out _ hlen
  · have e1 : makeF S p = (-1, S) := by simp [makeF, ht]
    rw [e1]
    rw [sptr_out sb ht] at hsc
    have HE := Lib.hid (h.ends (r := .int .i64 (-1)) (Below.refl _ w))
    clear h ht e1
    go_enter Try.func10, Try.ntmps10
    go_wp2_with (go_at_call 20; refine hsc.mono ?_; rintro e w2 ⟨rfl, hw2⟩; subst w2)
    go_ret
    exact HE.out
end
end Go.Proofs.Ytglnihecgjfkiaa.Sc
