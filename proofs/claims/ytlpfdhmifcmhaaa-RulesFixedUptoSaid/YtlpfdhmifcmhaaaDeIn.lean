/-
  A region whose callees make memory, walked once, in a class of worlds that keep some rows.
-/
import Derived.Test.YtlpfdhmifcmhaaaDeMem
import Derived.BigQuiet
import Derived.WalkKit
namespace Go.Proofs.Ytlpfdhmifcmhaaa.Des
open Go.RowKit Go.Proofs.Ytlpfdhmifcmhaaa.Vals
set_option linter.unusedVariables false
set_option linter.unusedSimpArgs false
attribute [local go_sem ↓] to_ldD to_stD run_eqD run_eqV0
attribute [local go_sem] n2 n3 m2 m3 rowD_drew rowD_drewN rowD_alloc rowD_putc rowD_other putD_drew putD_drewN putD_size putD_alloc setObj_cells run_ldD run_stD okC_dcs okC_lit objRow_dcs one_b one_i one_s objRow_lit dcs_0 dcs_1 dcs_2 dcs_3 dcs_4 dcs_5 dcs_6 dcs_7 dcs_8 dcs_9 dcs_10 dcs_11 dcs_12 dcs_13 dcs_14 dcs_15 dcs_16 dcs_17
attribute [local go_sem low] cell_rowD

/-- The worlds of a class. -/
structure Wd (S : World → Prop) where
  w : World
  ok : S w
/-- What was there stays; these rows are kept. -/
def S1 (B : World) (l : List (Nat × Array Value)) : World → Prop := fun w' => Below B.heap.size B w' ∧ ∀ x ∈ l, rowD w' x.1 = some x.2
theorem S1.call {B : World} {l : List (Nat × Array Value)} {w w' : World} (h : S1 B l w) (hb : Below w.heap.size w w') : S1 B l w' := ⟨bel_keep hb h.1, fun x hx => rowD_call hb (h.2 x hx)⟩
theorem S1.drew {B : World} {l : List (Nat × Array Value)} {w : World} (h : S1 B l w) : S1 B l w.drew := ⟨bel_drew h.1, fun x hx => (rowD_drew _ _).trans (h.2 x hx)⟩
theorem s1_nil {B w : World} (h : Below B.heap.size B w) : S1 B [] w := ⟨h, fun x hx => by cases hx⟩
theorem s1_cons {B w : World} {g : Nat} {cs : Array Value} {l : List (Nat × Array Value)} (hr : rowD w g = some cs) (h : S1 B l w) : S1 B ((g, cs) :: l) w := ⟨h.1, fun x hx => by
  cases hx with
  | head => exact hr
  | tail _ hx => exact h.2 x hx⟩
theorem S1.row {B w : World} {g : Nat} {cs : Array Value} {l : List (Nat × Array Value)} (h : S1 B l w) (hm : (g, cs) ∈ l) : rowD w g = some cs := h.2 _ hm
theorem wd_row {B : World} {g : Nat} {cs : Array Value} {l : List (Nat × Array Value)} (hm : (g, cs) ∈ l) (p : Wd (S1 B l)) : rowD p.w g = some cs := p.ok.row hm
theorem region_in {P : Program} {id : Nat} {Q : Exit → Act → World → Prop} {a : Act} {w : World} {l : List Oper} {B : World} (rows : List (Nat × Array Value)) (hm : P.follows .mixedOrders = true) (hB : Region.lexB .any l.toArray = true) (h0 : S1 B rows w)
    (h : Nonempty (Wd (S1 B rows)) → wpQuiet P l.toArray (fun w' => ∃ p : Wd (S1 B rows), w' = p.w) (fun a' => ∀ w', (∃ p : Wd (S1 B rows), w' = p.w) → Q .normal a' w') l a) : (Code.region id l.toArray true).wp P Q a w :=
  wp_region_quiet (C := fun w' => ∃ p : Wd (S1 B rows), w' = p.w) hm hB ⟨⟨_, h0.drew⟩, rfl⟩ (by simpa using h ⟨⟨_, h0.drew⟩⟩)
theorem in_call {P : Program} {B : World} {rows : List (Nat × Array Value)} {f : FuncId} {args : Array Value} {v : Value} {p : Wd (S1 B rows)} (h : Calls P f args p.w fun e w' => e = .returned v ∧ Below p.w.heap.size p.w w') :
    Calls P f args p.w fun e w'' => e = .returned v ∧ ∃ q : Wd (S1 B rows), w'' = q.w := h.mono fun _ _ ⟨he, hb⟩ => ⟨he, ⟨⟨_, p.ok.call hb⟩, rfl⟩⟩
theorem in_out {S : World → Prop} {w' : World} (h : ∃ p : Wd S, w' = p.w) : S w' := by
  obtain ⟨p, rfl⟩ := h
  exact p.ok
end Go.Proofs.Ytlpfdhmifcmhaaa.Des
