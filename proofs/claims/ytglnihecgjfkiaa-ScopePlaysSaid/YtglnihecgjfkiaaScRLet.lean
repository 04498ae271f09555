/-
  The reference's Let, walked.
-/
import Derived.Test.YtglnihecgjfkiaaScRBeg
namespace Go.Proofs.Ytglnihecgjfkiaa.Sc
open Go Go.RowKit Go.Maps
set_option linter.unusedVariables false
set_option linter.unusedSimpArgs false
attribute [local irreducible] vcs pcs

theorem bdR (ps : Array (Nat × Value)) : Instr.build 61 ps = Bd 61 ps := (rfl)
abbrev rnew (s : ByteArray) (f : Bool) : Array Value := #[.string s, .bool f, .bool false, .int .i64 0, .int .i64 0, .string ⟨#[]⟩]
theorem run_bdR (s : ByteArray) (f : Bool) (w : World) : (Bd 61 #[(0, .string s), (1, .bool f)]).run Try.prog w = .ok (.agg (rnew s f)) w := run_build w _ _ _ (by kernel_rfl)
theorem rnew_rcs (s : ByteArray) (f : Bool) : (rnew s f).toList = rcs ⟨s, f, false, zeroV⟩ := rfl
theorem infoR : (Try.prog.info? 61).map (fun i => (i.zero, i.size, i.bytes)) = some (some (.agg (rnew ⟨#[]⟩ false)), 6, 56) := by kernel_rfl
theorem six_new (w : World) (cs : Array Value) (t : TypeId) : ∀ j u, cs.toList[j]? = some u → (w.alloc (.cells cs t)).cell? ((⟨w.heap.size, 0, none⟩ : Addr).add j) = some u := fun j u hj => by
  have e : (⟨w.heap.size, 0, none⟩ : Addr).add j = ⟨w.heap.size, j, none⟩ := by unfold Addr.add; split <;> simp_all
  rw [e, (Blk.new w cs t).cell]
  simpa using hj
section
variable {base : Nat} {X : Nat → Prop} {w w' : World} {rb : Nat} {S : List Sco} {ap : Option Addr} {cp : Nat} {al : Option Addr} {cl : Nat} {hv : Nat → Value}
theorem map_set_range (hv : Nat → Value) (n i : Nat) (v : Value) (hi : i < n) : ((List.range n).map hv).set i v = (List.range n).map fun k => if k = i then v else hv k := by
  apply List.ext_getElem?
  intro k
  rw [List.getElem?_set]
  by_cases e : i = k
  · subst e
    simp [hi]
  · have e' : ¬ k = i := fun h => e h.symm
    simp only [e, if_false, List.getElem?_map]
    by_cases hk : k < n
    · simp [List.getElem?_range hk, e']
    · rw [List.getElem?_eq_none (by simpa using hk)]
      rfl
/-- A variable has come to a scope's list. -/
theorem RAt.addVar (h : RAt base X w rb S ap cp al cl hv) {i : Nat} {sc : Sco} {va : Va} (hi : S[i]? = some sc) {gl : Nat} (hal : al = some ⟨gl, 0, none⟩) {W W3 W4 : World} (hW : W.heap = w.heap) (hF : Fr w W) {o : Obj} (h3 : W3 = W.alloc o) {v' : Value}
    (hown : W4.ownsRow base 61 6 v' (sc.vs.length + 1) (rcells (sc.vs ++ [va]))) (hg : W3.grownBy W4 (hv i).ownBlock) (hat : v'.ownBlock = (hv i).ownBlock ∨ v'.ownBlock = some W3.heap.size) :
    W4.cell? ⟨gl, i, none⟩ = some (hv i) ∧ W4.frozen? ⟨gl, i, none⟩ = false ∧ W4.cell? ⟨rb, 1, none⟩ = some (.slice al S.length cl) ∧ ∃ X', RIs base X' (W4.setCell ⟨gl, i, none⟩ v') rb (setVs S i (sc.vs ++ [va])) ∧ Step X X' w (W4.setCell ⟨gl, i, none⟩ v') := by
  subst hal
  have hsz : W.heap.size = w.heap.size := by rw [hW]
  have k3 : W3.heap.size = w.heap.size + 1 := by rw [h3]; simp [hsz]
  have k4 := hg.size
  have hil := at_lt hi
  have hr := h.vrow i sc hi
  have hlX : X gl := h.xl gl rfl
  have glt := (h.low gl hlX).2
  -- up to W4 the old blocks but the list's stay
  have st4 : ∀ b, b < w.heap.size → some b ≠ (hv i).ownBlock → W4.heap[b]? = w.heap[b]? := fun b hb hne => by
    rw [hg.block b (by omega) hne, h3, heap_alloc_old _ _ (by omega), hW]
  have two : ∀ {e : TypeId} {sz n : Nat} {v : Value} {xs : List Value}, w.ownsRow base e sz v n xs → e ≠ 61 → ∀ g, v.ownBlock = some g → some g ≠ (hv i).ownBlock := fun ho he g hgv e2 => by
    rcases own_two ho hr he with h1 | h1
    · rw [hgv] at h1; cases h1
    · exact h1 (by rw [hgv, e2])
  have own4 : ∀ {e : TypeId} {sz n : Nat} {v : Value} {xs : List Value}, w.ownsRow base e sz v n xs → e ≠ 61 → W4.ownsRow base e sz v n xs := fun ho he => own_same ho fun g hgv => st4 g (ho.lt g hgv).2 (two ho he g hgv)
  have l4 := own4 h.lrow (by decide)
  have p4 := own4 h.prow (by decide)
  have head4 : Blk W4 rb (rhd (.slice ap S.length cp) (.slice (some ⟨gl, 0, none⟩) S.length cl)) 49 := (st4 rb h.head.lt fun e => own_ne hr h.head (by decide) e.symm).trans h.head
  obtain ⟨g5, e5, c5⟩ := own_cell l4 (i := i) (v := hv i) (by rw [List.getElem?_map, List.getElem?_range hil]; rfl)
  cases e5
  have f5 := (there_own l4 (o := i) (k := 1) (by omega) 0 (by omega)).2
  rw [Nat.add_zero] at f5
  refine ⟨c5, f5, head4.cell 1, Also X w (W4.setCell ⟨gl, i, none⟩ v'), ?_, ?_⟩
  · obtain ⟨W5, hW5⟩ : ∃ W5, W4.setCell ⟨gl, i, none⟩ v' = W5 := ⟨_, rfl⟩
    have k5 : W5.heap.size = W4.heap.size := by rw [← hW5]; simp [World.setCell]
    have st5 : ∀ b, b ≠ gl → W5.heap[b]? = W4.heap[b]? := fun b hne => by rw [← hW5]; exact heap_setCell_other W4 ⟨gl, i, none⟩ b _ hne
    have l5 := own_put l4 (o := i) (by omega) v'
    rw [hW5, map_set_range hv S.length i v' hil] at l5
    have notgl : ∀ {e : TypeId} {sz n : Nat} {v : Value} {xs : List Value}, W4.ownsRow base e sz v n xs → e ≠ 59 → W5.ownsRow base e sz v n xs := fun ho he => own_same ho fun g hgv => st5 g fun e2 => by
      rcases own_two ho l4 he with h1 | h1
      · rw [hgv] at h1; cases h1
      · exact h1 (by rw [hgv, e2]; rfl)
    rw [hW5]
    have len := setVs_len S i (sc.vs ++ [va])
    refine ⟨ap, cp, some ⟨gl, 0, none⟩, cl, fun k => if k = i then v' else hv k, ?_, ?_, ?_, fun k sk hk => ?_, h.par.setVs _ _, fun k m g hk hm hgk hgm => ?_, fun b hb => ?_, by have := h.lowb; omega, .inl h.xh, fun g hgv => ?_, fun g hgv => ?_, fun k g hk hgv => ?_⟩
    · rw [len]; exact (st5 rb fun e => own_ne l4 head4 (by decide) (by rw [e]; rfl)).trans head4
    · rw [len, setVs_parents]; exact notgl p4 (by decide)
    · rw [len]; exact l5
    · rcases setVs_cases hk with ⟨hne, h1⟩ | ⟨rfl, sc0, h1, rfl⟩
      · rw [if_neg hne]
        have hrk := h.vrow k sk h1
        refine notgl (own_same hrk fun g hgv => st4 g (hrk.lt g hgv).2 fun e => hne ?_) (by decide)
        exact h.inj k i g (at_lt h1) hil hgv e.symm
      · rw [if_pos rfl]
        have := notgl hown (by decide)
        simpa using this
    · rw [len] at hk hm
      have old : ∀ k g, k < S.length → (hv k).ownBlock = some g → g < w.heap.size := fun k g hk hgk => (h.low g (h.xv k g hk hgk)).2
      by_cases e1 : k = i
      · by_cases e2 : m = i
        · omega
        · simp only [e1, if_true, if_neg e2] at hgk hgm
          rcases hat with hat | hat
          · rw [hat] at hgk
            rw [e1]; exact h.inj i m g hil hm hgk hgm
          · rw [hat] at hgk
            have := old m g hm hgm
            cases hgk
            omega
      · by_cases e2 : m = i
        · simp only [e2, if_true, if_neg e1] at hgk hgm
          rcases hat with hat | hat
          · rw [hat] at hgm
            rw [e2]; exact h.inj k i g hk hil hgk hgm
          · rw [hat] at hgm
            have := old k g hk hgk
            cases hgm
            omega
        · simp only [if_neg e1, if_neg e2] at hgk hgm
          exact h.inj k m g hk hm hgk hgm
    · exact hb.elim (fun hx => ⟨(h.low b hx).1, by have := (h.low b hx).2; omega⟩) (fun hx => ⟨Nat.le_trans h.lowb hx.1, hx.2⟩)
    · rw [len] at hgv; exact .inl (h.xp g hgv)
    · rw [len] at hgv; exact .inl (h.xl g hgv)
    · rw [len] at hk
      by_cases e1 : k = i
      · simp only [e1, if_true] at hgv
        rcases hat with hat | hat
        · rw [hat] at hgv; exact .inl (h.xv i g hil hgv)
        · have := (hown.lt g hgv).2
          rw [hat] at hgv
          cases hgv
          exact .inr ⟨by omega, by omega⟩
      · simp only [if_neg e1] at hgv
        exact .inl (h.xv k g hk hgv)
  · refine ⟨?_, fun b hb hx => ?_, also_more⟩
    · have hF3 : Fr w W3 := by rw [h3]; exact hF.alloc o
      exact (hF3.grown hg).set _ _
    · rw [heap_setCell_other W4 ⟨gl, i, none⟩ b _ (fun e => hx (by rw [e]; exact hlX))]
      exact st4 b hb fun e => hx (h.xv i b hil e.symm)
/-- append, and what it leaves. -/
theorem rlet_app (h : RAt base X w rb S ap cp al cl hv) {i : Nat} {sc : Sco} (hi : S[i]? = some sc) {gl : Nat} (hal : al = some ⟨gl, 0, none⟩) (hl : sc.vs.length ≤ 1000) (s : ByteArray) (fx : Bool) {W : World} (hW : W.heap = w.heap) (hF : Fr w W) :
    ∃ g' c' W4, (Builtin.append_ #[59, 59] 59 #[hv i, .slice (some ⟨W.heap.size, 0, none⟩) 1 1]).run Try.prog (W.alloc (.cells (rnew s fx) 61)) = .ok (.slice (some ⟨g', 0, none⟩) (sc.vs.length + 1) c') W4 ∧
      W4.cell? ⟨gl, i, none⟩ = some (hv i) ∧ W4.frozen? ⟨gl, i, none⟩ = false ∧ W4.cell? ⟨rb, 1, none⟩ = some (.slice al S.length cl) ∧ ∃ X', RIs base X' (W4.setCell ⟨gl, i, none⟩ (.slice (some ⟨g', 0, none⟩) (sc.vs.length + 1) c')) rb (setVs S i (sc.vs ++ [⟨s, fx, false, zeroV⟩])) ∧ Step X X' w (W4.setCell ⟨gl, i, none⟩ (.slice (some ⟨g', 0, none⟩) (sc.vs.length + 1) c')) := by
  obtain ⟨t, ht, hz0, hz1, hz2⟩ := info_parts infoR
  have hr : W.ownsRow base 61 6 (hv i) sc.vs.length (rcells sc.vs) := own_same (h.vrow i sc hi) fun g _ => by rw [hW]
  have hlow := h.lowb
  have hsz : W.heap.size = w.heap.size := by rw [hW]
  obtain ⟨v', W4, hrun, hown4, hgrow4, _, hat⟩ := run_append_own_at (P := Try.prog) (W.alloc (.cells (rnew s fx) 61)) base 59 59 61 t (.agg (rnew ⟨#[]⟩ false)) 6 56 Try.underlying59 ht hz0 hz1 hz2 rfl (by decide) (hv i) sc.vs.length _ (hr.alloc _) ⟨W.heap.size, 0, none⟩ 1 1 (rnew s fx).toList rfl (six_new W (rnew s fx) _) (by simp [Value.oneCell']) (by unfold maxLen; omega) (by omega) (by simp; omega)
  rw [rnew_rcs] at hown4
  have e : rcells sc.vs ++ rcs ⟨s, fx, false, zeroV⟩ = rcells (sc.vs ++ [⟨s, fx, false, zeroV⟩]) := by rw [rcells_append]; simp [rcells]
  rw [e] at hown4
  obtain ⟨g', c', rfl⟩ := ownsRow_succ hown4
  exact ⟨g', c', W4, hrun, h.addVar hi hal hW hF rfl hown4 hgrow4 hat⟩
end
end Go.Proofs.Ytglnihecgjfkiaa.Sc
