/-
  A region that draws its order, by an invariant: one step an operation, whatever the order.
-/
import Derived.Test.YtlboaldikgonoaaDoorUnLow
import Derived.Orders
namespace Go.Proofs.YtlboaldikgonoaaDoor.Rg
open Go Go.RowKit
set_option linter.unusedVariables false
set_option linter.unusedSimpArgs false

/-- What an operation waits for. -/
def depsOf (md : Region.Mode) (ops : Array Oper) (i : Nat) : List Nat := ((ops[i]?).map fun o => (o.after.toList.filter (Region.binds md)).map (·.on)).getD []
def acyc (md : Region.Mode) (ops : Array Oper) : Bool := (List.range ops.size).all fun i => (depsOf md ops i).all fun d => decide (d < i)
section
variable {P : Program} {ops : Array Oper} {Q : Exit → Act → World → Prop} {md : Region.Mode}
theorem mem_deps {i d : Nat} {o : Oper} (ho : ops[i]? = some o) : d ∈ depsOf md ops i ↔ ∃ e ∈ o.after, Region.binds md e = true ∧ e.on = d := by
  simp [depsOf, ho, and_assoc]
theorem ready_iff {L : Array Bool} {i : Nat} : i ∈ Region.ready md ops L ↔ i < ops.size ∧ L.getD i true = false ∧ ∀ d ∈ depsOf md ops i, L.getD d false = true := by
  unfold Region.ready
  simp only [List.mem_filter, List.mem_range, Bool.and_eq_true, Bool.not_eq_true']
  constructor
  · rintro ⟨h1, h2, h3⟩
    refine ⟨h1, h2, fun d hd => ?_⟩
    have ho : ops[i]? = some ops[i] := Array.getElem?_eq_some_iff.2 ⟨h1, rfl⟩
    rw [ho] at h3
    simp only [Option.map_some, Option.getD_some, Array.all_eq_true_iff_forall_mem] at h3
    obtain ⟨e, he, hb, rfl⟩ := (mem_deps ho).1 hd
    have := h3 e he
    rw [hb] at this
    simpa using this
  · rintro ⟨h1, h2, h3⟩
    refine ⟨h1, h2, ?_⟩
    have ho : ops[i]? = some ops[i] := Array.getElem?_eq_some_iff.2 ⟨h1, rfl⟩
    rw [ho]
    simp only [Option.map_some, Option.getD_some, Array.all_eq_true_iff_forall_mem]
    intro e he
    cases hb : Region.binds md e with
    | false => rfl
    | true => simpa using h3 _ ((mem_deps ho).2 ⟨e, he, hb, rfl⟩)
theorem getD_set {L : Array Bool} {i j : Nat} (h : i ≠ j) (b : Bool) : (L.setIfInBounds i true).getD j b = L.getD j b := by
  simp [Array.getD_eq_getD_getElem?, Array.getElem?_setIfInBounds, h]
theorem all_of_stuck (hac : acyc md ops = true) {L : Array Bool} (hs : L.size = ops.size) (h : Region.ready md ops L = []) : ∀ i, i < ops.size → L.getD i false = true := by
  have hac' : ∀ i, i < ops.size → ∀ d ∈ depsOf md ops i, d < i := by
    intro i hi d hd
    unfold acyc at hac
    rw [List.all_eq_true] at hac
    have := hac i (List.mem_range.2 hi)
    rw [List.all_eq_true] at this
    simpa using this d hd
  intro i
  induction i using Nat.strongRecOn with
  | _ i ih =>
    intro hi
    cases hc : L.getD i true with
    | true =>
      have hl : i < L.size := by omega
      simp [Array.getD_eq_getD_getElem?, hl] at hc ⊢
      exact hc
    | false =>
      have : i ∈ Region.ready md ops L := ready_iff.2 ⟨hi, hc, fun d hd => ih d (hac' i hi d hd) (Nat.lt_trans (hac' i hi d hd) hi)⟩
      rw [h] at this
      cases this
def left (L : Array Bool) : Nat := L.toList.count false
theorem left_set {L : Array Bool} {i : Nat} (h : L.getD i true = false) : left (L.setIfInBounds i true) + 1 = left L := by
  have hl : i < L.size := by
    rcases Nat.lt_or_ge i L.size with h' | h'
    · exact h'
    · simp [Array.getD_eq_getD_getElem?, Array.getElem?_eq_none h'] at h
  have hv : L[i] = false := by simpa [Array.getD_eq_getD_getElem?, hl] using h
  unfold left
  simp only [Array.toList_setIfInBounds]
  have hl2 : i < L.toList.length := by simpa using hl
  rw [List.count_set hl2]
  have : L.toList[i] = false := by simpa using hv
  have hpos : 0 < L.toList.count false := List.count_pos_iff.2 (by rw [← this]; exact List.getElem_mem hl2)
  have hc : Array.count false L = L.toList.count false := by simp
  simp [hv]
  omega
theorem closed_set {L : Array Bool} {i : Nat} (hc : ∀ j, j < ops.size → L.getD j false = true → ∀ d ∈ depsOf md ops j, L.getD d false = true) (h3 : ∀ d ∈ depsOf md ops i, L.getD d false = true) : ∀ j, j < ops.size → (L.setIfInBounds i true).getD j false = true → ∀ d ∈ depsOf md ops j, (L.setIfInBounds i true).getD d false = true := by
  have up : ∀ d, L.getD d false = true → (L.setIfInBounds i true).getD d false = true := by
    intro d hd
    by_cases hid : i = d
    · subst hid
      have hl : i < L.size := by
        rcases Nat.lt_or_ge i L.size with h' | h'
        · exact h'
        · simp [Array.getD_eq_getD_getElem?, Array.getElem?_eq_none h'] at hd
      simp [Array.getD_eq_getD_getElem?, hl]
    · rw [getD_set hid]; exact hd
  intro j hj h d hd
  by_cases hij : i = j
  · subst hij
    exact up d (h3 d hd)
  · rw [getD_set hij] at h
    exact up d (hc j hj h d hd)
theorem getD_no {L : Array Bool} {i : Nat} (h : L.getD i true = false) : L.getD i false = false := by
  rcases Nat.lt_or_ge i L.size with h' | h'
  · simpa [Array.getD_eq_getD_getElem?, h'] using h
  · simp [Array.getD_eq_getD_getElem?, Array.getElem?_eq_none h'] at h
theorem getD_same {L : Array Bool} {i : Nat} (h : i < L.size) : (L.setIfInBounds i true).getD i false = true := by
  simp [Array.getD_eq_getD_getElem?, h]
theorem not_yet {L : Array Bool} {i : Nat} (h : L.getD i true = false) (k : L.getD i false = true) : False := by rw [getD_no h] at k; cases k
theorem memOf {l : List Nat} {d : Nat} (h : l.contains d = true) : d ∈ l := by simpa using h
theorem wpAny_inv (I : Array Bool → Act → World → Prop) (hac : acyc md ops = true)
    (hstep : ∀ i L a w, i < ops.size → (∀ d ∈ depsOf md ops i, L.getD d false = true) → L.getD i true = false → L.size = ops.size → (∀ j, j < ops.size → L.getD j false = true → ∀ d ∈ depsOf md ops j, L.getD d false = true) → I L a w → wpOp P ops Q i (I (L.setIfInBounds i true)) a w)
    (hend : ∀ L a w, (∀ i, i < ops.size → L.getD i false = true) → I L a w → Q .normal a w) :
    ∀ (fuel : Nat) (L : Array Bool) (a : Act) (w : World), L.size = ops.size → left L ≤ fuel → (∀ j, j < ops.size → L.getD j false = true → ∀ d ∈ depsOf md ops j, L.getD d false = true) → I L a w → wpAny P md ops Q fuel L a w
  | 0, L, a, w, hs, hf, hc, hI => by
    have hr : Region.ready md ops L = [] := by
      apply List.eq_nil_iff_forall_not_mem.2
      intro i hi
      have := left_set (ready_iff.1 hi).2.1
      omega
    exact ⟨hr, hend L a w (all_of_stuck hac hs hr) hI⟩
  | fuel + 1, L, a, w, hs, hf, hc, hI => by
    refine ⟨fun hr => hend L a w (all_of_stuck hac hs hr) hI, fun i hi => ?_⟩
    obtain ⟨h1, h2, h3⟩ := ready_iff.1 hi
    refine wpOp_mono (fun a' w' h => ?_) (hstep i L a w h1 h3 h2 hs hc hI)
    exact wpAny_inv I hac hstep hend fuel _ a' w' (by simpa using hs) (by have := left_set h2; omega) (closed_set hc h3) h
/-- The region, from the world behind the draw. -/
theorem region_inv {id : Nat} {a : Act} {w : World} (hm : P.follows .mixedOrders = true) (I : Array Bool → Act → World → Prop) (hac : acyc .any ops = true)
    (h0 : I (Array.replicate ops.size false) a w.drew)
    (hstep : ∀ i L a w, i < ops.size → (∀ d ∈ depsOf .any ops i, L.getD d false = true) → L.getD i true = false → L.size = ops.size → (∀ j, j < ops.size → L.getD j false = true → ∀ d ∈ depsOf .any ops j, L.getD d false = true) → I L a w → wpOp P ops Q i (I (L.setIfInBounds i true)) a w)
    (hend : ∀ L a w, (∀ i, i < ops.size → L.getD i false = true) → I L a w → Q .normal a w) : (Code.region id ops true).wp P Q a w :=
  wp_region_any hm (wpAny_inv I hac hstep hend _ _ _ _ (by simp) (by unfold left; refine Nat.le_trans List.count_le_length ?_; simp) (fun j hj h => by simp [Array.getD_eq_getD_getElem?, hj] at h) h0)
theorem step_run {i : Nat} {o : Oper} {K : Act → World → Prop} {a : Act} {w w' : World} {v : Value} (hi : ops[i]? = some o) (hg : o.guard = none) (hrun : (execOp a.eval o).run P w = .ok (.value v) w') (hK : K (a.put o.dst v) w') : wpOp P ops Q i K a w := by
  unfold wpOp
  simp only [hi]
  rw [if_pos (by simp [Region.wanted, hg])]
  left
  unfold Oper.wp
  rw [hrun]
  exact hK
theorem step_sk {i : Nat} {o : Oper} {K : Act → World → Prop} {a : Act} {w w' : World} (hi : ops[i]? = some o) (hg : o.guard = none) (hrun : (execOp a.eval o).run P w = .ok .skip w') (hK : K (a.put o.dst undef) w') : wpOp P ops Q i K a w := by
  unfold wpOp
  simp only [hi]
  rw [if_pos (by simp [Region.wanted, hg])]
  left
  unfold Oper.wp
  rw [hrun]
  exact hK
theorem step_call {i : Nat} {o : Oper} {K : Act → World → Prop} {a : Act} {w : World} {f : FuncId} {args : Array Value} {R : Ending → World → Prop} (hi : ops[i]? = some o) (hg : o.guard = none) (hrun : (execOp a.eval o).run P w = .ok (.enter f args) w) (hc : Calls P f args w R) (hR : ∀ e w', R e w' → ∃ v, e = .returned v ∧ K (a.put o.dst v) w') : wpOp P ops Q i K a w := by
  unfold wpOp
  simp only [hi]
  rw [if_pos (by simp [Region.wanted, hg])]
  left
  unfold Oper.wp
  rw [hrun]
  refine Calls.mono hc ?_
  intro e w' he
  obtain ⟨v, rfl, hk⟩ := hR e w' he
  exact hk
end
end Go.Proofs.YtlboaldikgonoaaDoor.Rg
