/-
  What the listed variables give; the row's wrap that keeps the world's shape.
-/
import Derived.Test.YtocebhaaamnfiaaGreatDoorRows
import Derived.Test.YtocebhaaamnfiaaGreatDoorMg36
import Derived.Stop.LaidErr
import Derived.Lib.LaidTab
import Derived.LaidMore
import Derived.ProofKit
import Derived.Shelf.Vars
namespace Go.Proofs.YtocebhaaamnfiaaGreatDoor.Pa
open Go Go.RowKit Go.Proofs.YtocebhaaamnfiaaGreatDoor.Nums Go.Proofs.YtocebhaaamnfiaaGreatDoor.Lx
set_option linter.unusedVariables false

theorem gPowType : (Tryz.prog.globals[5]?).map (·.type) = some 152 := by kernel_rfl
theorem cells48 : Tryz.prog.cellsOf 95 = 1 := by kernel_rfl
theorem cells61 : Tryz.prog.cellsOf 152 = 20 := by kernel_rfl
theorem gSynType : (Tryz.prog.globals[3]?).map (·.type) = some 88 := by kernel_rfl
theorem gRanType : (Tryz.prog.globals[4]?).map (·.type) = some 88 := by kernel_rfl
theorem gTz : Tryz.prog.globalNamed "math/bits.deBruijn64tab" = some 7 := by kernel_rfl
theorem gTzType : (Tryz.prog.globals[7]?).map (·.type) = some 158 := by kernel_rfl
theorem cells5 : Tryz.prog.cellsOf 5 = 1 := by kernel_rfl
theorem cells64 : Tryz.prog.cellsOf 158 = 64 := by kernel_rfl
theorem gSig : Tryz.prog.globalNamed "understudy/lex.signs" = some 0 := by kernel_rfl
theorem gSigType : (Tryz.prog.globals[0]?).map (·.type) = some 104 := by kernel_rfl
theorem cells26 : Tryz.prog.cellsOf 104 = 26 := by kernel_rfl
theorem gLev : Tryz.prog.globalNamed "understudy/parse.levels" = some 1 := by kernel_rfl
theorem gLevType : (Tryz.prog.globals[1]?).map (·.type) = some 127 := by kernel_rfl
theorem cells6 : Tryz.prog.cellsOf 127 = 6 := by kernel_rfl
theorem cells70 : Tryz.prog.cellsOf 143 = 1 := by kernel_rfl
theorem cells9 : Tryz.prog.cellsOf 9 = 1 := by kernel_rfl
theorem star : "*" ++ "errors.errorString" = "*errors.errorString" := by decide
theorem row68 (u : TypeId) (h : Tryz.prog.typeName? 3 u = some "*errors.errorString") : u = 141 :=
  typeName_ptr_named (nm := "errors.errorString") (by rw [star]; kernel_rfl) (by kernel_rfl) (by decide) u (by rw [star]; exact h)

/-- Strings as cells. -/
def strs (l : List By) : List Value := l.map fun s => Value.string (bs s)
/-- An array of strings as a row lists it. -/
def strData {H : Type} (zs : List By) : DataW H := .agg (zs.map fun z => .lit (.string z))
theorem cells_of_strs {H : Type} {enc : TypeId × Value → H} {P : Program} {w : World} {base : Nat} {sp : Nat → Bool} {held : Bool} {fuel : Nat} {t e : TypeId} {n : Nat} {cs : List Value} {zs : List By} {p : List MemPlace}
    (ht : P.underlying t = some (.array n e)) (he : P.underlying e = some .string) (hce : P.cellsOf e = 1) (hct : P.cellsOf t = n)
    (h : DataW.trod enc P w base sp held fuel t cs = some (strData zs, p)) : cs = strs zs := by
  cases fuel with
  | zero => simp [DataW.trod] at h
  | succ fuel =>
    simp only [DataW.trod, ht, hce, hct, Nat.mul_one] at h
    split at h
    · rename_i hl
      obtain ⟨xs, hm, hx⟩ := Option.map_eq_some_iff.1 h
      have hxs : xs.map (·.1) = zs.map fun z => (DataW.lit (.string z) : DataW H) := by
        have := congrArg Prod.fst hx
        simpa [strData] using this
      have hxl : xs.length = n := by simpa using Lib.mapM_length hm
      have hzl : zs.length = n := by
        have := congrArg List.length hxs
        simp at this
        omega
      apply List.ext_getElem?
      intro i
      by_cases hi : i < n
      · obtain ⟨b, hb, hf⟩ := Lib.mapM_at hm i i (by simp [hi])
        obtain ⟨z, hc, hd, _⟩ := DataW.trod_string he hf
        have h1 : cs[i]? = some (.string z) := by
          have := congrArg (·[0]?) hc
          simpa [List.getElem?_take, List.getElem?_drop] using this
        have h2 : (xs.map (·.1))[i]? = some b.1 := by simp [hb]
        rw [hxs, hd] at h2
        simp only [List.getElem?_map, Option.map_eq_some_iff, DataW.lit.injEq, Lit.string.injEq] at h2
        obtain ⟨z', hz', rfl⟩ := h2
        rw [h1]
        simp only [strs, List.getElem?_map, hz', Option.map_some]
        rw [bs_of]
      · rw [List.getElem?_eq_none (by omega), List.getElem?_eq_none (by simp [strs]; omega)]
    · cases h
theorem sg_of_head {W : World} {rest : List (String × DataW Unit)} (h : laidMet Tryz.prog (("understudy/lex.signs", strData signs) :: rest) W) : W.rangeAt 0 0 sgL := by
  obtain ⟨ps, ⟨g', t', cs, fuel, p, q, hg', ht', hvar, hd, _, _⟩, _⟩ := h
  obtain rfl := Option.some.inj (gSig.symm.trans hg')
  obtain rfl := Option.some.inj (gSigType.symm.trans ht')
  have hcs := cells_of_strs Tryz.underlying104 Tryz.underlying9 cells9 cells26 hd
  intro j v hj
  rw [Nat.zero_add, World.var?_cell hg' hvar j, ← Array.getElem?_toList, hcs]
  exact hj

def levs : List By := [[124, 124], [38, 38], [61, 61, 61, 32, 33, 61, 61], [60, 32, 62, 32, 60, 61, 32, 62, 61, 32, 105, 110], [43, 32, 45], [42, 32, 47, 32, 37]]
theorem levs_lvL : strs levs = lvL := by kernel_rfl
theorem lv_of_head {W : World} {rest : List (String × DataW Unit)} (h : laidMet Tryz.prog (("understudy/parse.levels", strData levs) :: rest) W) : W.rangeAt 1 0 lvL := by
  obtain ⟨ps, ⟨g', t', cs, fuel, p, q, hg', ht', hvar, hd, _, _⟩, _⟩ := h
  obtain rfl := Option.some.inj (gLev.symm.trans hg')
  obtain rfl := Option.some.inj (gLevType.symm.trans ht')
  have hcs := cells_of_strs Tryz.underlying127 Tryz.underlying9 cells9 cells6 hd
  rw [levs_lvL] at hcs
  intro j v hj
  rw [Nat.zero_add, World.var?_cell hg' hvar j, ← Array.getElem?_toList, hcs]
  exact hj

theorem gp_of_laid {W : World} {row : OpenClaim} (hr : row.laid = [("math/bits.deBruijn32tab", Rows.laid_math_bits_deBruijn32tab), ("math/bits.deBruijn64tab", Rows.laid_math_bits_deBruijn64tab), ("internal/strconv.uint64pow10", Rows.laid_internal_strconv_uint64pow10), ("strconv.ErrRange", Rows.laid_strconv_ErrRange), ("strconv.ErrSyntax", Rows.laid_strconv_ErrSyntax), ("understudy/lex.signs", Rows.laid_understudy_lex_signs), ("understudy/parse.levels", Rows.laid_understudy_parse_levels)]) (h : laidMetH Tryz.prog row.laid W) (hsh : W.ShapedOpen Tryz.prog) : Gp W := by
  rw [hr] at h
  rw [MakeChecks.laidMetH_plain _ _ _ (by kernel_rfl)] at h
  have h2 := h.tail
  have h3 := h2.tail
  have h4 := h3.tail
  have h5 := h4.tail
  have h6 := h5.tail
  have hlv := lv_of_head h6.tail
  obtain ⟨a0, s0, hv0, -, -, -⟩ := laid_sentinel h4 gRan gRanType Tryz.underlying88 row68 Tryz.underlying141 Tryz.underlying143 rfl rfl Tryz.underlying9 cells70 cells9
  obtain ⟨a1, s1, hv1, -, -, -⟩ := laid_sentinel h5 gSyn gSynType Tryz.underlying88 row68 Tryz.underlying141 Tryz.underlying143 rfl rfl Tryz.underlying9 cells70 cells9
  have hml : Ml W := cell_of_shapedOpen_int (P := Tryz.prog) (g := 2) (t := 3) (zero := #[.int .i64 0]) hsh (of_decide_eq_true (by kernel_rfl)) (by kernel_rfl) rfl (by kernel_rfl) (by kernel_rfl) Tryz.underlying3
  have h7 := (Lib.tabIs_of_head gTz gTzType Tryz.underlying158 Tryz.underlying5 cells5 cells64 (k := .u8) (zs := [0, 1, 56, 2, 57, 49, 28, 3, 61, 58, 42, 50, 38, 29, 17, 4, 62, 47, 59, 36, 45, 43, 51, 22, 53, 39, 33, 30, 24, 18, 12, 5, 63, 55, 48, 27, 60, 41, 37, 16, 46, 35, 44, 21, 52, 32, 23, 11, 54, 26, 40, 15, 34, 20, 31, 10, 25, 14, 19, 9, 13, 8, 7, 6]) h2).cell gTz 15 (by decide)
  exact ⟨⟨⟨Lib.tabIs_of_head gPow gPowType Tryz.underlying152 Tryz.underlying95 cells48 cells61 h3, ⟨_, _, hv1⟩, ⟨_, _, hv0⟩⟩, hml, sg_of_head h6⟩, hlv, World.block_lt_of_cell? W _ h7⟩

/-- A row with what it lists met, and the world's shape with it. -/
theorem returns_shaped {H : Type} {enc : TypeId × Value → H} {a : Assume} {C : Checked} {os : Os} {f : FuncId} {fn : Func} {s : ChangeSpec} {conds : List PathCond} {apart fresh handsOn again : Bool} {X : World → Array Value → Prop}
    (hX : ∀ (w w' : World) (args : Array Value), w.heap = w'.heap → X w args → X w' args)
    (own : ownKnob C.prog.godebug = none) (started : os.Started) (noInit : C.prog.inits.idxOf? f = none) (hfn : C.prog.funcs[f]? = some fn)
    (witness : ∃ (w : World) (tape : Tape) (i : Input), w.os = os ∧ (w.forCall tape i).Shaped C.prog ∧ i.vars = [] ∧ Input.okWide C.prog (w.forCall tape i) .any w.heap.size f i ∧
      ((s.pre enc C.prog fn conds apart (w.forCall tape i).memory i.args ∧ X (w.forCall tape i).memory i.args) ∧ sizedMet enc C.prog fn (OpenSpec.ofChange s) apart (w.forCall tape i).memory i.args) ∧ a.holds C.prog (lone (Frame.enter C.prog f i.args .normal) [] (w.forCall tape i)))
    (contract : ∀ (W : World) (base : Nat) (args : Array Value) (ds gs : List (DataW H)) (before : List MemPlace),
      (∀ (j : Nat) t v, fn.params[j]? = some t → args[j]? = some v → Value.okWide C.prog W .any base t v) →
      DataW.Whole enc C.prog fn.params.toList s.vars apart W args.toList ds gs before →
      conds.all (PathCond.test C.prog ⟨fn.params.toList, ds, s.plain.varTypes C.prog, gs⟩) = true →
      X W args → W.ShapedOpen C.prog →
      Calls C.prog f args W fun e W' => ∃ v, e = .returned v ∧ s.post enc C.prog fn apart fresh handsOn again W args v W') :
    ReturnsInHanded a C os f .any (fun w args => (s.pre enc C.prog fn conds apart w args ∧ X w args) ∧ sizedMet enc C.prog fn (OpenSpec.ofChange s) apart w args) (s.post enc C.prog fn apart fresh handsOn again) :=
  returnsInHanded_of_calls own started noInit witness fun w tape i _ hsh _ hok hpre _ => by
    obtain ⟨_, _, _, fn', hfn', _, _, _, _, hval⟩ := hok
    have e : fn' = fn := Option.some.inj (hfn'.symm.trans hfn)
    subst e
    obtain ⟨⟨⟨ds, gs, before, hw, hc⟩, hx⟩, _⟩ := hpre
    refine (contract (w.forCall tape i) w.heap.size i.args ds gs before hval (DataW.Whole.of_heap (w' := w.forCall tape i) (by rfl) hw) hc (hX _ _ _ (by rfl) hx) hsh).mono fun e W' ⟨v, he, hp⟩ => ?_
    subst he
    exact ChangeSpec.post_blind hp
end Go.Proofs.YtocebhaaamnfiaaGreatDoor.Pa
