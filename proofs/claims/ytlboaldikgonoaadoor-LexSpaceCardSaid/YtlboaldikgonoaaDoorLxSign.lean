/-
  lex.sign; what the listed variables give, kept.
-/
import Derived.Test.YtlboaldikgonoaaDoorLxRd
import Derived.Test.YtlboaldikgonoaaDoorNmText
import Derived.Deep.MidRow
namespace Go.Proofs.YtlboaldikgonoaaDoor.Lx
open Go.RowKit Go.Proofs.YtlboaldikgonoaaDoor.Uni
set_option linter.unusedVariables false
set_option linter.unusedSimpArgs false

/-- The punctuators as cells. -/
def sgL : List Value := signs.map fun s => Value.string (bs s)
def sgA : Array Value := sgL.toArray

/-- What a call of the lexer reads of the package's and the library's variables. -/
structure Fa (w : World) : Prop where
  lw : Nums.Lw w
  ml : Ml w
  sg : w.rangeAt 0 0 sgL

theorem var_keep {w w' : World} {n : String} {g : Nat} {cs : Array Value} (hg : Tryd.prog.globalNamed n = some g) (h : w.var? Tryd.prog n = some cs) (hk : g < w.heap.size → w'.heap[g]? = w.heap[g]?) : w'.var? Tryd.prog n = some cs := by
  unfold World.var? at *
  simp only [hg, Option.bind_some] at h ⊢
  have hlt : g < w.heap.size := by
    rcases Nat.lt_or_ge g w.heap.size with h' | h'
    · exact h'
    · rw [Array.getElem?_eq_none h'] at h; cases h
  rw [hk hlt]
  exact h
theorem cell_keep {w w' : World} {b o : Nat} {v : Value} (h : w.cell? ⟨b, o, none⟩ = some v) (hk : b < w.heap.size → w'.heap[b]? = w.heap[b]?) : w'.cell? ⟨b, o, none⟩ = some v := by
  rw [World.cell?_of_block (w := w) (hk (World.block_lt_of_cell? w _ h))]
  exact h
theorem gPow : Tryd.prog.globalNamed "internal/strconv.uint64pow10" = some 4 := by kernel_rfl
theorem gSyn : Tryd.prog.globalNamed "strconv.ErrSyntax" = some 2 := by kernel_rfl
theorem gRan : Tryd.prog.globalNamed "strconv.ErrRange" = some 3 := by kernel_rfl

/-- It speaks of the first few blocks alone. -/
theorem Fa.keep {w w' : World} (h : Fa w) (hk : ∀ k, k < 7 → k < w.heap.size → w'.heap[k]? = w.heap[k]?) : Fa w' := by
  obtain ⟨⟨h1, ⟨t2, p2, h2⟩, ⟨t3, p3, h3⟩⟩, ⟨m, h4⟩, h5⟩ := h
  refine ⟨⟨var_keep gPow h1 (hk _ (by decide)), ⟨t2, p2, var_keep gSyn h2 (hk _ (by decide))⟩, ⟨t3, p3, var_keep gRan h3 (hk _ (by decide))⟩⟩, ⟨m, cell_keep h4 (hk _ (by decide))⟩, fun j v hj => cell_keep (h5 j v hj) (hk _ (by decide))⟩
theorem Fa.gb {g : Nat} {w w' : World} (h : Fa w) (hg : 7 ≤ g) (k : GB g w w') : Fa w' := h.keep fun i hi hl => k.block i hl (by intro e; cases e; omega)
theorem Fa.below {w w' : World} (h : Fa w) (k : Below w.heap.size w w') : Fa w' := h.keep fun i _ hl => k.block i hl
theorem Fa.later {B : Nat} {w w' : World} (h : Fa w) (hB : 7 ≤ B) (k : Below B w w') : Fa w' := h.keep fun i hi _ => k.block i (by omega)

theorem size_sg : (Tryd.prog.info? 85).map (·.size) = some 26 := by kernel_rfl
def LdS (v : Value) : Sem Value := Instr.loadAt 85 v
theorem ldS (v : Value) : Instr.loadAt 85 v = LdS v := (rfl)
theorem load_sg {w : World} (h : w.rangeAt 0 0 sgL) : (LdS (.pointer (some ⟨0, 0, none⟩))).run Tryd.prog w = .ok (.agg sgA) w :=
  run_loadAt_mid (P := Tryd.prog) w _ 0 85 sgL _ h Tryd.underlying85 rfl size_sg
set_option maxRecDepth 100000 in
theorem index_sg (k : Nat) (hk : k < 26) (w : World) : (Instr.index 85 (.agg sgA) (.int .i64 (k : Int))).run Tryd.prog w = .ok (.string (bs (signs.getD k []))) w := by
  rcases (by omega : k = 0 ∨ k = 1 ∨ k = 2 ∨ k = 3 ∨ k = 4 ∨ k = 5 ∨ k = 6 ∨ k = 7 ∨ k = 8 ∨ k = 9 ∨ k = 10 ∨ k = 11 ∨ k = 12 ∨ k = 13 ∨ k = 14 ∨ k = 15 ∨ k = 16 ∨ k = 17 ∨ k = 18 ∨ k = 19 ∨ k = 20 ∨ k = 21 ∨ k = 22 ∨ k = 23 ∨ k = 24 ∨ k = 25) with rfl | rfl | rfl | rfl | rfl | rfl | rfl | rfl | rfl | rfl | rfl | rfl | rfl | rfl | rfl | rfl | rfl | rfl | rfl | rfl | rfl | rfl | rfl | rfl | rfl | rfl <;> rfl

theorem find_step (l : By) (k : Nat) (hk : k < 26) : (signs.drop k).find? (fun t => Lib.hasPrefix l t) = if Lib.hasPrefix l (signs.getD k []) then some (signs.getD k []) else (signs.drop (k + 1)).find? (fun t => Lib.hasPrefix l t) := by
  have hlen : signs.length = 26 := by decide
  have e : signs.drop k = signs.getD k [] :: signs.drop (k + 1) := by
    rw [List.drop_eq_getElem_cons (by omega), List.getD_eq_getElem?_getD, List.getElem?_eq_getElem (by omega)]
    rfl
  rw [e, List.find?_cons]
  cases Lib.hasPrefix l (signs.getD k []) <;> rfl

attribute [local go_sem ↓] ldS
attribute [local irreducible] sgA
set_option maxHeartbeats 1000000 in
theorem sign_any (s : ByteArray) (w : World) (hF : w.rangeAt 0 0 sgL) :
    Calls Tryd.prog 45 #[.string s] w fun e w' => e = .returned (.tuple #[.string (bs ((signF s.data.toList).getD [])), .bool (signF s.data.toList).isSome]) ∧ w = w' := by
  have hld := load_sg hF
  have hix := index_sg
  clear hF
  go_enter Tryd.func45, Tryd.ntmps45
  go_wp2
  go_loopw [7] (fun v wr => ∃ k : Nat, v = .int .i64 (k : Int) ∧ k ≤ 26 ∧ wr = w ∧ Hid (signF s.data.toList = (signs.drop k).find? (fun t => Lib.hasPrefix s.data.toList t))) (fun v _ => 26 - (intOf v).toNat)
  case atStart => exact ⟨0, rfl, by omega, rfl, Lib.hid rfl⟩
  case round =>
    obtain ⟨k, rfl, hk, rfl, hf⟩ := hrel
    by_cases hlt : k < 26
    · have hki : (k : Int) < 26 := by omega
      have hx := fun w => hix k hlt w
      have hst := find_step s.data.toList k hlt
      have hp := fun w => Tryd.strings_HasPrefix s (bs (signs.getD k [])) w
      rw [bs_list] at hp
      obtain ⟨b, hb⟩ : ∃ b, Lib.hasPrefix s.data.toList (signs.getD k []) = b := ⟨_, rfl⟩
      obtain ⟨u, hu⟩ : ∃ u, signs.getD k [] = u := ⟨_, rfl⟩
      rw [hu] at hb hst hp hx
      rw [hb] at hp hst
      have HS := Lib.hid hst
      have HU := Lib.hid hu
      clear hst hb hu hix
      cases b with
      | true =>
        have hfin : signF s.data.toList = some u := by rw [hf.out, HS.out]; rfl
        have HF := Lib.hid hfin
        clear hfin
        go_wp2_with (go_at_call 25; refine (hp _).mono ?_; rintro e w' ⟨rfl, rfl⟩)
        go_ret2
        exact ⟨by rw [HF.out]; rfl, rfl⟩
      | false =>
        have hnx : signF s.data.toList = (signs.drop (k + 1)).find? (fun t => Lib.hasPrefix s.data.toList t) := by rw [hf.out, HS.out]; rfl
        have HN := Lib.hid hnx
        clear hnx
        go_wp2_with (go_at_call 25; refine (hp _).mono ?_; rintro e w' ⟨rfl, rfl⟩)
        go_roundw
        case rel => exact ⟨k + 1, by go_num, by omega, trivial, HN⟩
        case measure => simp [intOf]; omega
    · have hk26 : k = 26 := by omega
      subst hk26
      have hfin : signF s.data.toList = none := by rw [hf.out]; rfl
      have HF := Lib.hid hfin
      clear hfin
      go_wp2
      go_ret2
      exact ⟨by rw [HF.out]; rfl, rfl⟩
end Go.Proofs.YtlboaldikgonoaaDoor.Lx
