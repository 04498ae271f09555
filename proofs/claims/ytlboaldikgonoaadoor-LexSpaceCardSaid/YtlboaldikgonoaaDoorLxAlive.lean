/-
  The document's example; what lies in a list of tokens.
-/
import Derived.Test.YtlboaldikgonoaaDoorLxToks
import Derived.Laws.BytesArg
import Derived.Lib.SlBytesConst
import Derived.Lib.SmallJoins
namespace Go.Proofs.YtlboaldikgonoaaDoor.Lx
open Go Go.RowKit Go.Proofs.YtlboaldikgonoaaDoor.Uni
set_option linter.unusedVariables false
set_option linter.unusedSimpArgs false

/-- A token of a list of the call's own. -/
theorem tok_at {w : World} {base n : Nat} {v : Value} {l : List Tok} (h : w.ownsRow base 33 4 v n (tcells l)) {k : Nat} {t : Tok} (hk : l[k]? = some t) :
    ∃ g cp, v = .slice (some ⟨g, 0, none⟩) n cp ∧ base ≤ g ∧ w.cell? ⟨g, k * 4, none⟩ = some (.int .i64 t.kind) ∧ w.cell? ⟨g, k * 4 + 1, none⟩ = some (.int .i64 t.pos) ∧ w.cell? ⟨g, k * 4 + 2, none⟩ = some (.int .i64 t.num) ∧ w.cell? ⟨g, k * 4 + 3, none⟩ = some (.string t.text) := by
  have hcell : ∀ j u, (kcs t)[j]? = some u → j < 4 → (tcells l)[k * 4 + j]? = some u := by
    clear h
    induction l generalizing k with
    | nil => simp at hk
    | cons a l ih =>
      intro j u hu hj
      have e : tcells (a :: l) = (kcs a).toList ++ tcells l := by simp [tcells]
      rw [e]
      cases k with
      | zero =>
        simp at hk
        subst hk
        rw [List.getElem?_append_left (by rw [kcs_list]; omega)]
        simpa using hu
      | succ k =>
        rw [List.getElem?_append_right (by rw [kcs_list]; omega), kcs_list]
        have := ih (k := k) (by simpa using hk) j u hu hj
        rw [show (k + 1) * 4 + j - 4 = k * 4 + j by omega]
        exact this
  have hcells := fun g => h.cells (g := g)
  rcases h.2 with ⟨hv, hn⟩ | ⟨g, cp, cur, hv, hb, _⟩
  · exfalso
    have h0 := hcell 0 _ (kcs_0 t) (by decide)
    have h1 := h.1
    rw [hn] at h1
    have : tcells l = [] := List.length_eq_zero_iff.1 (by omega)
    rw [this] at h0
    simp at h0
  · refine ⟨g, cp, hv, hb, ?_⟩
    have hc : ∀ j u, (kcs t)[j]? = some u → j < 4 → w.cell? ⟨g, k * 4 + j, none⟩ = some u := by
      intro j u hu hj
      have h2 := hcells g (by rw [hv]; rfl) (k * 4 + j) u (hcell j u hu hj)
      have e : (⟨g, 0, none⟩ : Addr).add (k * 4 + j) = ⟨g, k * 4 + j, none⟩ := by unfold Addr.add; split <;> simp_all
      rw [e] at h2
      exact h2
    exact ⟨hc 0 _ (kcs_0 t) (by decide), hc 1 _ (kcs_1 t) (by decide), hc 2 _ (kcs_2 t) (by decide), hc 3 _ (kcs_3 t) (by decide)⟩

theorem num_any (n : Int) (w : World) : Calls Tryd.prog 13 #[.int .i64 n] w fun e w' => e = .returned (.int .i64 n) ∧ w = w' := by
  go_enter Tryd.func13, Tryd.ntmps13
  go_wp2
  go_ret
  exact ⟨rfl, rfl⟩

def exS : ByteArray := ⟨#[97, 46, 98]⟩
def exT : List Tok := [⟨1, 0, 0, ⟨#[97]⟩⟩, ⟨5, 1, 0, ⟨#[46]⟩⟩, ⟨1, 2, 0, ⟨#[98]⟩⟩, ⟨0, 3, 0, ⟨#[]⟩⟩]
theorem ex_lex : lexT exS = (0, 0, exT) := by kernel_rfl
abbrev exC : Array Value := #[.int .u8 97, .int .u8 46, .int .u8 98]
theorem ex_conv (w : World) : (convert 25 9 (.slice (some ⟨w.heap.size, 0, none⟩) exS.size 3)).run Tryd.prog (w.alloc (.cells exC 5 (3, 4))) = .ok (.string exS) (w.alloc (.cells exC 5 (3, 4))) := by
  have hr := run_convert_bytes_arg (P := Tryd.prog) (w.alloc (.cells exC 5 (3, 4))) 25 5 Tryd.underlying25 Tryd.underlying5 w.heap.size 0 3 3 [97, 46, 98] rfl (fun i hi => by
    rw [Joins.cell_of_block (heap_alloc_new w _)]
    rcases (by omega : i = 0 ∨ i = 1 ∨ i = 2) with rfl | rfl | rfl <;> rfl) 9 Tryd.underlying9
  exact hr

set_option maxRecDepth 100000 in
set_option maxHeartbeats 4000000 in
theorem alive_any (w : World) (hF : Fa w) (h7 : 7 ≤ w.heap.size) : Calls Tryd.prog 9 #[] w fun e w' => e = .returned (.bool true) ∧ Below w.heap.size w w' := by
  have hb : Below w.heap.size w (w.alloc (.cells exC 5 (3, 4))) := bel1
  have ht := toks_any (some ⟨w.heap.size, 0, none⟩) 3 exS (w.alloc (.cells exC 5 (3, 4))) (hF.below hb) (by simp; omega) (ex_conv w) (by decide)
  unfold TokPost at ht
  rw [ex_lex, show exS.size = 3 from rfl] at ht
  have hk := Lib.run_convert_bytes_const (P := Tryd.prog) w 25 5 exC 3 3 Tryd.underlying25 Tryd.underlying5
  have hk2 : exC.size = 3 := rfl
  rw [hk2] at hk
  have HB := Lib.hid hb
  clear hb hF hk2
  go_enter Tryd.func9, Tryd.ntmps9
  go_wp2_with (go_at_call 12; refine ht.mono ?_; rintro e w1 ⟨v, rfl, hown, hb1⟩; refine Hid.out ?_)
  refine Lib.hid ?_
  obtain ⟨g, cp, rfl, hbg, -, -, -, c7⟩ := tok_at hown (k := 1) (t := ⟨5, 1, 0, ⟨#[46]⟩⟩) rfl
  obtain ⟨g', cp', e2, -, c12, -, -, -⟩ := tok_at hown (k := 3) (t := ⟨0, 3, 0, ⟨#[]⟩⟩) rfl
  obtain ⟨rfl, rfl⟩ : g = g' ∧ cp = cp' := by simpa using e2
  clear hown e2
  have HB1 := Lib.hid hb1
  clear hb1 ht
  go_wp2_with (go_at_call 13; refine (num_any _ _).mono ?_; rintro e w2 ⟨rfl, rfl⟩)
  go_ret
  exact ⟨rfl, HB.out.trans (HB1.out.mono (by simp))⟩
end Go.Proofs.YtlboaldikgonoaaDoor.Lx
