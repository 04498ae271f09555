/-
  A drawn region walked once, where descriptors and cells are kept.
-/
import Derived.Test.YtlpfdhmifcmhaaaRuRule
import Derived.Test.YtlpfdhmifcmhaaaDeIn
namespace Go.Proofs.Ytlpfdhmifcmhaaa.Des
open Go.RowKit Go.Proofs.Ytlpfdhmifcmhaaa.Vals
set_option linter.unusedVariables false
set_option linter.unusedSimpArgs false
attribute [local go_sem ↓] to_ldD to_stD run_eqD run_eqV0
attribute [local go_sem] n2 n3 m2 m3 rowD_drew rowD_drewN rowD_alloc rowD_putc rowD_other putD_drew putD_drewN putD_size putD_alloc setObj_cells run_ldD run_stD okC_dcs okC_lit objRow_dcs one_b one_i one_s objRow_lit dcs_0 dcs_1 dcs_2 dcs_3 dcs_4 dcs_5 dcs_6 dcs_7 dcs_8 dcs_9 dcs_10 dcs_11 dcs_12 dcs_13 dcs_14 dcs_15 dcs_16 dcs_17
attribute [local go_sem low] cell_rowD

/-- What was there stays; these descriptors and these cells are kept. -/
def S3 (B : World) (l : List (Nat × Array Value)) (m : List (Addr × Value)) : World → Prop := fun w' => S1 B l w' ∧ ∀ x ∈ m, w'.cell? x.1 = some x.2
theorem S3.call {B : World} {l : List (Nat × Array Value)} {m : List (Addr × Value)} {w w' : World} (h : S3 B l m w) (hb : Below w.heap.size w w') : S3 B l m w' := ⟨h.1.call hb, fun x hx => cell_call hb (h.2 x hx)⟩
theorem S3.drew {B : World} {l : List (Nat × Array Value)} {m : List (Addr × Value)} {w : World} (h : S3 B l m w) : S3 B l m w.drew := ⟨h.1.drew, fun x hx => h.2 x hx⟩
theorem s3_nil {B w : World} {l : List (Nat × Array Value)} (h : S1 B l w) : S3 B l [] w := ⟨h, fun x hx => by cases hx⟩
theorem s3_cons {B w : World} {l : List (Nat × Array Value)} {a : Addr} {v : Value} {m : List (Addr × Value)} (hr : w.cell? a = some v) (h : S3 B l m w) : S3 B l ((a, v) :: m) w := ⟨h.1, fun x hx => by
  cases hx with
  | head => exact hr
  | tail _ hx => exact h.2 x hx⟩
theorem w3_row {B : World} {g : Nat} {cs : Array Value} {l : List (Nat × Array Value)} {m : List (Addr × Value)} (hm : (g, cs) ∈ l) (p : Wd (S3 B l m)) : rowD p.w g = some cs := p.ok.1.row hm
theorem w3_cell {B : World} {a : Addr} {v : Value} {l : List (Nat × Array Value)} {m : List (Addr × Value)} (hm : (a, v) ∈ m) (p : Wd (S3 B l m)) : p.w.cell? a = some v := p.ok.2 _ hm
theorem region_c {P : Program} {id : Nat} {Q : Exit → Act → World → Prop} {a : Act} {w : World} {l : List Oper} {B : World} (rows : List (Nat × Array Value)) (cells : List (Addr × Value)) (hm : P.follows .mixedOrders = true) (hB : Region.lexB .any l.toArray = true) (h0 : S3 B rows cells w)
    (h : Nonempty (Wd (S3 B rows cells)) → wpQuiet P l.toArray (fun w' => ∃ p : Wd (S3 B rows cells), w' = p.w) (fun a' => ∀ w', (∃ p : Wd (S3 B rows cells), w' = p.w) → Q .normal a' w') l a) : (Code.region id l.toArray true).wp P Q a w :=
  wp_region_quiet (C := fun w' => ∃ p : Wd (S3 B rows cells), w' = p.w) hm hB ⟨⟨_, h0.drew⟩, rfl⟩ (by simpa using h ⟨⟨_, h0.drew⟩⟩)
theorem c_call {P : Program} {B : World} {rows : List (Nat × Array Value)} {cells : List (Addr × Value)} {f : FuncId} {args : Array Value} {v : Value} {p : Wd (S3 B rows cells)} (h : Calls P f args p.w fun e w' => e = .returned v ∧ Below p.w.heap.size p.w w') :
    Calls P f args p.w fun e w'' => e = .returned v ∧ ∃ q : Wd (S3 B rows cells), w'' = q.w := h.mono fun _ _ ⟨he, hb⟩ => ⟨he, ⟨⟨_, p.ok.call hb⟩, rfl⟩⟩
end Go.Proofs.Ytlpfdhmifcmhaaa.Des
