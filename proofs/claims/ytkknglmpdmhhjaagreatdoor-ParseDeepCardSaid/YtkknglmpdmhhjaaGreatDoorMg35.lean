/-
  Texts of this seat in build order: PaAlive, PaLaid.
-/
import Derived.Test.YtkknglmpdmhhjaaGreatDoorMg34
import Derived.Lib.SlBytesRow
import Derived.Lib.ConvBytes
import Derived.Lib.SlBytesConst
import Derived.Test.YtkknglmpdmhhjaaGreatDoorRows
import Derived.Stop.LaidErr
import Derived.Lib.LaidTab
import Derived.LaidMore
import Derived.ProofKit
import Derived.Shelf.Vars
/-
  Parse of bytes; num; alive.
-/
namespace Go.Proofs.YtkknglmpdmhhjaaGreatDoor.Pa
open Go Go.RowKit Go.Proofs.YtkknglmpdmhhjaaGreatDoor.Lx Go.Proofs.YtkknglmpdmhhjaaGreatDoor.Uni
set_option linter.unusedVariables false
set_option linter.unusedSimpArgs false

theorem bnext {w w1 w2 : World} (h1 : Below w.heap.size w w1) (h2 : Below w1.heap.size w1 w2) : Below w.heap.size w w2 := h1.trans (h2.mono h1.size)
/-- Parse of bytes that lie in memory. -/
theorem parse_bytes (b cap : Nat) (s : ByteArray) (w : World) (hX : Gp w) (hm : s.size ≤ 9223372036854775807) (hB : ∀ i, i < s.size → w.cell? ⟨b, i, none⟩ = some (.int .u8 (s.data.toList.getD i 0).toNat)) :
    Calls Tryz.prog 10 #[.slice (some ⟨b, 0, none⟩) s.size cap] w (ParsePost s w) := by
  refine parse_any _ _ _ s w hX (toks_any _ _ s _ (hX.fa.below bel1) (by have := hX.sz; simp; omega) ?_ hm)
  exact Lib.run_convert_whole (P := Tryz.prog) _ 22 5 9 Tryz.underlying22 Tryz.underlying5 Tryz.underlying9 _ 0 s (fun i hi => by
    rw [Nat.zero_add]
    have h := hB i hi
    rw [World.cell?_alloc_past _ _ _ (World.block_lt_of_cell? w _ h), h]
    rw [List.getD_eq_getElem?_getD, List.getElem?_eq_getElem (by rw [lsz]; exact hi)]
    rfl) cap
/-- Parse of a string that has been converted. -/
theorem parse_str (s : ByteArray) (w : World) (hX : Gp w) (hm : s.size ≤ 9223372036854775807) :
    Calls Tryz.prog 10 #[.slice (some ⟨w.heap.size, 0, none⟩) s.size (grownCap w s.size 0 5)] (Lib.bytesWorld w 5 s) fun e w' => ∃ N, e = .returned (.tuple #[.agg (ncs N), .int .i64 (parseF s).2.1, .int .i64 (parseF s).2.2]) ∧ Rep (w.heap.size ≤ ·) w' (parseF s).1 N ∧ Below w.heap.size w w' := by
  refine (parse_bytes _ _ s _ (hX.below (bw_below w s)) hm (fun i hi => Lib.bytesWorld_cell w _ s i hi)).mono ?_
  rintro e w' ⟨N, h1, h2, h3⟩
  rw [Lib.bytesWorld_size] at h2 h3
  exact ⟨N, h1, Rep.keep (fun b hb hS => ⟨by have hS' : w.heap.size + 1 ≤ b := hS; omega, rfl⟩) _ _ h2, (bw_below w s).trans (h3.mono (by omega))⟩
theorem num_any (n : Int) (w : World) : Calls Tryz.prog 11 #[.int .i64 n] w fun e w' => e = .returned (.int .i64 n) ∧ w = w' := by
  go_enter Tryz.func11, Tryz.ntmps11
  go_wp2
  go_ret
  exact ⟨rfl, rfl⟩
/-- The one kid of a node. -/
theorem Rep.kid1 {S : Nat → Prop} {w : World} {k n : Int} {t : ByteArray} {ns : List ByteArray} {T : Tree} {N : Nd} (h : Rep S w (.mk k n t ns [T]) N) : ∃ g c x, N.kids = ⟨some ⟨g, 0, none⟩, 1, c⟩ ∧ 1 ≤ c ∧ Rep S w T x ∧ w.cell? ⟨g, 0, none⟩ = some (.int .i64 x.kind) ∧ w.cell? ⟨g, 2, none⟩ = some (.string x.text) ∧ w.cell? ⟨g, 4, none⟩ = some (.slice x.kids.a x.kids.n x.kids.c) := by
  obtain ⟨xs, h1, h2⟩ := h.ks
  obtain ⟨g, c, e, hc, hz⟩ := h1.at (by simp [Tree.kids])
  obtain ⟨x, hx, hr⟩ := h2.at (i := 0) (t := T) rfl
  have e1 : N.kids = ⟨some ⟨g, 0, none⟩, 1, c⟩ := e
  refine ⟨g, c, x, e1, hc, hr, ?_, ?_, ?_⟩
  · exact hz 0 _ (ncells_at hx (j := 0) (by simpa using ncs_0 x))
  · exact hz 2 _ (ncells_at hx (j := 2) (by simpa using ncs_2 x))
  · exact hz 4 _ (ncells_at hx (j := 4) (by simpa using ncs_4 x))
theorem Rep.text {S : Nat → Prop} {w : World} {T : Tree} {N : Nd} (h : Rep S w T N) : N.text = T.text := by
  cases T
  unfold Rep at h
  exact h.2.2.1

def exS : ByteArray := ⟨#[97, 59]⟩
def exT : Tree := node 44 [node 33 [.mk 8 0 ⟨#[97]⟩ [] []]]
theorem ex_parse : parseF exS = (exT, 0, 0) := by kernel_rfl
abbrev exC : Array Value := #[.int .u8 97, .int .u8 59]
attribute [local go_sem ↓] ldK stK alK bdK bsK ldN stN alN bdN bsN
attribute [local irreducible] kcs ncs ncells
attribute [local go_sem] run_alN run_stNg run_ldNg run_bdN0
set_option maxRecDepth 100000 in
set_option maxHeartbeats 4000000 in
theorem alive_any (w : World) (hX : Gp w) : Calls Tryz.prog 9 #[] w fun e w' => e = .returned (.bool true) ∧ Below w.heap.size w w' := by
  have hb : Below w.heap.size w (w.alloc (.cells exC 5 (2, 3))) := bel1
  have ht := parse_bytes w.heap.size 2 exS (w.alloc (.cells exC 5 (2, 3))) (hX.below hb) (by decide) (fun i hi => by
    have hi2 : i < 2 := hi
    have hg : (w.alloc (.cells exC 5 (2, 3))).heap[w.heap.size]? = some (.cells exC 5 (2, 3)) := heap_alloc_new w _
    rcases (by omega : i = 0 ∨ i = 1) with rfl | rfl
    · simp only [World.cell?, hg]; rfl
    · simp only [World.cell?, hg]; rfl)
  unfold ParsePost at ht
  rw [ex_parse, show exS.size = 2 from rfl] at ht
  have hk := Lib.run_convert_bytes_const (P := Tryz.prog) w 22 5 exC 2 2 Tryz.underlying22 Tryz.underlying5
  have hk2 : exC.size = 2 := rfl
  rw [hk2] at hk
  have HB := Lib.hid hb
  clear hb hX hk2
  go_enter Tryz.func9, Tryz.ntmps9
  go_wp2_with (go_at_call 10; (with_reducible refine ht.mono ?_); rintro e w1 ⟨N, rfl, hr, hb1⟩; refine Hid.out ?_)
  refine Lib.hid ?_
  have k0 : N.kind = 44 := hr.kind
  obtain ⟨g1, p1, x1, e1, q1, r1, z1, -, z3⟩ := hr.kid1
  have k1 : x1.kind = 33 := r1.kind
  obtain ⟨g2, p2, x2, e2, q2, r2, -, y2, -⟩ := r1.kid1
  have k2 : x2.text = ⟨#[97]⟩ := r2.text
  rw [e2] at z3
  rw [k1] at z1
  rw [k2] at y2
  have B1 := Blk.new w1 (ncs N) 27
  have b0 := (B1.cell 0).trans (ncs_0 N)
  have b4 := (B1.cell 4).trans (ncs_4 N)
  rw [k0] at b0
  rw [e1] at b4
  have g1l := World.block_lt_of_cell? w1 _ z1
  have g2l := World.block_lt_of_cell? w1 _ y2
  have z1' : (w1.alloc (.cells (ncs N) 27)).cell? ⟨g1, 0, none⟩ = some (.int .i64 33) := by rw [World.cell?_alloc_past _ _ _ g1l]; exact z1
  have z3' : (w1.alloc (.cells (ncs N) 27)).cell? ⟨g1, 4, none⟩ = some (.slice (some ⟨g2, 0, none⟩) 1 p2) := by rw [World.cell?_alloc_past _ _ _ g1l]; exact z3
  have y2' : (w1.alloc (.cells (ncs N) 27)).cell? ⟨g2, 2, none⟩ = some (.string ⟨#[97]⟩) := by rw [World.cell?_alloc_past _ _ _ g2l]; exact y2
  have HB1 := Lib.hid hb1
  clear hr r1 r2 e1 e2 k0 k1 k2 B1 z1 z3 y2 hb1 ht
  go_wp2_with (go_at_call 11; (with_reducible refine (num_any _ _).mono ?_); rintro e w2 ⟨rfl, rfl⟩)
  go_ret
  exact ⟨rfl, HB.out.trans ((HB1.out.trans (bel1.mono HB1.out.size)).mono (by simp))⟩
end Go.Proofs.YtkknglmpdmhhjaaGreatDoor.Pa

/-
  What the listed variables give; the row's wrap that keeps the world's shape.
-/
namespace Go.Proofs.YtkknglmpdmhhjaaGreatDoor.Pa
open Go Go.RowKit Go.Proofs.YtkknglmpdmhhjaaGreatDoor.Nums Go.Proofs.YtkknglmpdmhhjaaGreatDoor.Lx
set_option linter.unusedVariables false

theorem gPowType : (Tryz.prog.globals[5]?).map (·.type) = some 226 := by kernel_rfl
theorem cells48 : Tryz.prog.cellsOf 154 = 1 := by kernel_rfl
theorem cells61 : Tryz.prog.cellsOf 226 = 20 := by kernel_rfl
theorem gSynType : (Tryz.prog.globals[3]?).map (·.type) = some 97 := by kernel_rfl
theorem gRanType : (Tryz.prog.globals[4]?).map (·.type) = some 97 := by kernel_rfl
theorem gTz : Tryz.prog.globalNamed "math/bits.deBruijn64tab" = some 7 := by kernel_rfl
theorem gTzType : (Tryz.prog.globals[7]?).map (·.type) = some 233 := by kernel_rfl
theorem cells5 : Tryz.prog.cellsOf 5 = 1 := by kernel_rfl
theorem cells64 : Tryz.prog.cellsOf 233 = 64 := by kernel_rfl
theorem gSig : Tryz.prog.globalNamed "understudy/lex.signs" = some 0 := by kernel_rfl
theorem gSigType : (Tryz.prog.globals[0]?).map (·.type) = some 159 := by kernel_rfl
theorem cells26 : Tryz.prog.cellsOf 159 = 26 := by kernel_rfl
theorem gLev : Tryz.prog.globalNamed "understudy/parse.levels" = some 2 := by kernel_rfl
theorem gLevType : (Tryz.prog.globals[2]?).map (·.type) = some 201 := by kernel_rfl
theorem cells6 : Tryz.prog.cellsOf 201 = 6 := by kernel_rfl
theorem cells70 : Tryz.prog.cellsOf 223 = 1 := by kernel_rfl
theorem cells9 : Tryz.prog.cellsOf 9 = 1 := by kernel_rfl
theorem star : "*" ++ "errors.errorString" = "*errors.errorString" := by decide
theorem row68 (u : TypeId) (h : Tryz.prog.typeName? 3 u = some "*errors.errorString") : u = 221 :=
  typeName_ptr_named (nm := "errors.errorString") (by rw [star]; kernel_rfl) (by kernel_rfl) (by decide) u (by rw [star]; exact h)

/-- Strings as cells. -/
def strs (l : List By) : List Value := l.map fun s => Value.string (bs s)
/-- An array of strings as a row lists it. -/
def strData {H : Type} (zs : List By) : DataW H := .agg (zs.map fun z => .lit (.string z))
theorem cells_of_strs {H : Type} {enc : TypeId × Value → H} {P : Program} {w : World} {base : Nat} {sp : Nat → Bool} {held : Bool} {fuel : Nat} {t e : TypeId} {n : Nat} {cs : List Value} {zs : List By} {p : List MemPlace}
    (ht : P.underlying t = some (.array n e)) (he : P.underlying e = some .string) (hce : P.cellsOf e = 1) (hct : P.cellsOf t = n)
    (h : DataW.trod enc P w base sp held fuel t cs = some (strData zs, p)) : cs = strs zs := by
  cases fuel with
  | zero => simp [DataW.trod] at h
  | succ fuel =>
    simp only [DataW.trod, ht, hce, hct, Nat.mul_one] at h
    split at h
    · rename_i hl
      obtain ⟨xs, hm, hx⟩ := Option.map_eq_some_iff.1 h
      have hxs : xs.map (·.1) = zs.map fun z => (DataW.lit (.string z) : DataW H) := by
        have := congrArg Prod.fst hx
        simpa [strData] using this
      have hxl : xs.length = n := by simpa using Lib.mapM_length hm
      have hzl : zs.length = n := by
        have := congrArg List.length hxs
        simp at this
        omega
      apply List.ext_getElem?
      intro i
      by_cases hi : i < n
      · obtain ⟨b, hb, hf⟩ := Lib.mapM_at hm i i (by simp [hi])
        obtain ⟨z, hc, hd, _⟩ := DataW.trod_string he hf
        have h1 : cs[i]? = some (.string z) := by
          have := congrArg (·[0]?) hc
          simpa [List.getElem?_take, List.getElem?_drop] using this
        have h2 : (xs.map (·.1))[i]? = some b.1 := by simp [hb]
        rw [hxs, hd] at h2
        simp only [List.getElem?_map, Option.map_eq_some_iff, DataW.lit.injEq, Lit.string.injEq] at h2
        obtain ⟨z', hz', rfl⟩ := h2
        rw [h1]
        simp only [strs, List.getElem?_map, hz', Option.map_some]
        rw [bs_of]
      · rw [List.getElem?_eq_none (by omega), List.getElem?_eq_none (by simp [strs]; omega)]
    · cases h
theorem sg_of_head {W : World} {rest : List (String × DataW Unit)} (h : laidMet Tryz.prog (("understudy/lex.signs", strData signs) :: rest) W) : W.rangeAt 0 0 sgL := by
  obtain ⟨ps, ⟨g', t', cs, fuel, p, q, hg', ht', hvar, hd, _, _⟩, _⟩ := h
  obtain rfl := Option.some.inj (gSig.symm.trans hg')
  obtain rfl := Option.some.inj (gSigType.symm.trans ht')
  have hcs := cells_of_strs Tryz.underlying159 Tryz.underlying9 cells9 cells26 hd
  intro j v hj
  rw [Nat.zero_add, World.var?_cell hg' hvar j, ← Array.getElem?_toList, hcs]
  exact hj

def levs : List By := [[124, 124], [38, 38], [61, 61, 61, 32, 33, 61, 61], [60, 32, 62, 32, 60, 61, 32, 62, 61, 32, 105, 110], [43, 32, 45], [42, 32, 47, 32, 37]]
theorem levs_lvL : strs levs = lvL := by kernel_rfl
theorem lv_of_head {W : World} {rest : List (String × DataW Unit)} (h : laidMet Tryz.prog (("understudy/parse.levels", strData levs) :: rest) W) : W.rangeAt 2 0 lvL := by
  obtain ⟨ps, ⟨g', t', cs, fuel, p, q, hg', ht', hvar, hd, _, _⟩, _⟩ := h
  obtain rfl := Option.some.inj (gLev.symm.trans hg')
  obtain rfl := Option.some.inj (gLevType.symm.trans ht')
  have hcs := cells_of_strs Tryz.underlying201 Tryz.underlying9 cells9 cells6 hd
  rw [levs_lvL] at hcs
  intro j v hj
  rw [Nat.zero_add, World.var?_cell hg' hvar j, ← Array.getElem?_toList, hcs]
  exact hj

theorem gp_of_laid {W : World} {row : OpenClaim} (hr : row.laid = [("math/bits.deBruijn32tab", Rows.laid_math_bits_deBruijn32tab), ("math/bits.deBruijn64tab", Rows.laid_math_bits_deBruijn64tab), ("internal/strconv.uint64pow10", Rows.laid_internal_strconv_uint64pow10), ("strconv.ErrRange", Rows.laid_strconv_ErrRange), ("strconv.ErrSyntax", Rows.laid_strconv_ErrSyntax), ("understudy/lex.signs", Rows.laid_understudy_lex_signs), ("understudy/parse.levels", Rows.laid_understudy_parse_levels)]) (h : laidMetH Tryz.prog row.laid W) (hsh : W.ShapedOpen Tryz.prog) : Gp W := by
  rw [hr] at h
  rw [MakeChecks.laidMetH_plain _ _ _ (by kernel_rfl)] at h
  have h2 := h.tail
  have h3 := h2.tail
  have h4 := h3.tail
  have h5 := h4.tail
  have h6 := h5.tail
  have hlv := lv_of_head h6.tail
  obtain ⟨a0, s0, hv0, -, -, -⟩ := laid_sentinel h4 gRan gRanType Tryz.underlying97 row68 Tryz.underlying221 Tryz.underlying223 rfl rfl Tryz.underlying9 cells70 cells9
  obtain ⟨a1, s1, hv1, -, -, -⟩ := laid_sentinel h5 gSyn gSynType Tryz.underlying97 row68 Tryz.underlying221 Tryz.underlying223 rfl rfl Tryz.underlying9 cells70 cells9
  have hml : Ml W := cell_of_shapedOpen_int (P := Tryz.prog) (g := 1) (t := 3) (zero := #[.int .i64 0]) hsh (of_decide_eq_true (by kernel_rfl)) (by kernel_rfl) rfl (by kernel_rfl) (by kernel_rfl) Tryz.underlying3
  have h7 := (Lib.tabIs_of_head gTz gTzType Tryz.underlying233 Tryz.underlying5 cells5 cells64 (k := .u8) (zs := [0, 1, 56, 2, 57, 49, 28, 3, 61, 58, 42, 50, 38, 29, 17, 4, 62, 47, 59, 36, 45, 43, 51, 22, 53, 39, 33, 30, 24, 18, 12, 5, 63, 55, 48, 27, 60, 41, 37, 16, 46, 35, 44, 21, 52, 32, 23, 11, 54, 26, 40, 15, 34, 20, 31, 10, 25, 14, 19, 9, 13, 8, 7, 6]) h2).cell gTz 15 (by decide)
  exact ⟨⟨⟨Lib.tabIs_of_head gPow gPowType Tryz.underlying226 Tryz.underlying154 cells48 cells61 h3, ⟨_, _, hv1⟩, ⟨_, _, hv0⟩⟩, hml, sg_of_head h6⟩, hlv, World.block_lt_of_cell? W _ h7⟩

/-- A row with what it lists met, and the world's shape with it. -/
theorem returns_shaped {H : Type} {enc : TypeId × Value → H} {a : Assume} {C : Checked} {os : Os} {f : FuncId} {fn : Func} {s : ChangeSpec} {conds : List PathCond} {apart fresh handsOn again : Bool} {X : World → Array Value → Prop}
    (hX : ∀ (w w' : World) (args : Array Value), w.heap = w'.heap → X w args → X w' args)
    (own : ownKnob C.prog.godebug = none) (started : os.Started) (noInit : C.prog.inits.idxOf? f = none) (hfn : C.prog.funcs[f]? = some fn)
    (witness : ∃ (w : World) (tape : Tape) (i : Input), w.os = os ∧ (w.forCall tape i).Shaped C.prog ∧ i.vars = [] ∧ Input.okWide C.prog (w.forCall tape i) .any w.heap.size f i ∧
      ((s.pre enc C.prog fn conds apart (w.forCall tape i).memory i.args ∧ X (w.forCall tape i).memory i.args) ∧ sizedMet enc C.prog fn (OpenSpec.ofChange s) apart (w.forCall tape i).memory i.args) ∧ a.holds C.prog (lone (Frame.enter C.prog f i.args .normal) [] (w.forCall tape i)))
    (contract : ∀ (W : World) (base : Nat) (args : Array Value) (ds gs : List (DataW H)) (before : List MemPlace),
      (∀ (j : Nat) t v, fn.params[j]? = some t → args[j]? = some v → Value.okWide C.prog W .any base t v) →
      DataW.Whole enc C.prog fn.params.toList s.vars apart W args.toList ds gs before →
      conds.all (PathCond.test C.prog ⟨fn.params.toList, ds, s.plain.varTypes C.prog, gs⟩) = true →
      X W args → W.ShapedOpen C.prog →
      Calls C.prog f args W fun e W' => ∃ v, e = .returned v ∧ s.post enc C.prog fn apart fresh handsOn again W args v W') :
    ReturnsInHanded a C os f .any (fun w args => (s.pre enc C.prog fn conds apart w args ∧ X w args) ∧ sizedMet enc C.prog fn (OpenSpec.ofChange s) apart w args) (s.post enc C.prog fn apart fresh handsOn again) :=
  returnsInHanded_of_calls own started noInit witness fun w tape i _ hsh _ hok hpre _ => by
    obtain ⟨_, _, _, fn', hfn', _, _, _, _, hval⟩ := hok
    have e : fn' = fn := Option.some.inj (hfn'.symm.trans hfn)
    subst e
    obtain ⟨⟨⟨ds, gs, before, hw, hc⟩, hx⟩, _⟩ := hpre
    refine (contract (w.forCall tape i) w.heap.size i.args ds gs before hval (DataW.Whole.of_heap (w' := w.forCall tape i) (by rfl) hw) hc (hX _ _ _ (by rfl) hx) hsh).mono fun e W' ⟨v, he, hp⟩ => ?_
    subst he
    exact ChangeSpec.post_blind hp
end Go.Proofs.YtkknglmpdmhhjaaGreatDoor.Pa
