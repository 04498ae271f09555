/-
  Texts of this seat in build order: PgStk, PgApp.
-/
import Derived.Test.YtinoaajohkafmaaGreatMw11
import Derived.Maps.AppendAt
import Derived.Laws.OwnMore
/-
  The printer's list of spots; what its layouts are made of.
-/
namespace Go.Proofs.YtinoaajohkafmaaGreat.Pr
open Go Go.RowKit Go.Proofs.YtinoaajohkafmaaGreat.Pa Go.Proofs.YtinoaajohkafmaaGreat.Uni
open Go.Proofs.YtinoaajohkafmaaGreat.Lx
set_option linter.unusedVariables false
set_option linter.unusedSimpArgs false
def Asc (l : By) : Prop := ∀ c ∈ l, c.toNat < 128
theorem asc_ite {c : Prop} [Decidable c] {a b : By} (ha : Asc a) (hb : Asc b) : Asc (if c then a else b) := by split <;> assumption
theorem asc_app {a b : By} (ha : Asc a) (hb : Asc b) : Asc (a ++ b) := fun c hc => by
  rcases List.mem_append.1 hc with h | h
  · exact ha c h
  · exact hb c h
theorem asc_rep {s : By} (h : Asc s) : ∀ n, Asc (repB s n)
  | 0 => fun c hc => by simp [repB] at hc
  | n + 1 => asc_app h (asc_rep h n)
theorem asc_list {c : UInt8} (h : c.toNat < 128) : ∀ n, Asc (listB c n)
  | 0 => fun x hx => by simp [listB] at hx
  | 1 => fun x hx => by simp [listB] at hx; rw [hx]; exact h
  | n + 2 => fun x hx => by
    rw [listB] at hx
    simp only [List.mem_cons] at hx
    rcases hx with rfl | rfl | rfl | hx
    · exact h
    · decide
    · decide
    · exact asc_list h (n + 1) x hx
theorem asc_lit {l : By} (h : (l.all fun c => decide (c.toNat < 128)) = true) : Asc l := fun c hc => of_decide_eq_true (List.all_eq_true.1 h c hc)
theorem asc_brace (n : Nat) : Asc (braceB n) := asc_app (asc_app (asc_lit (by decide)) (asc_rep (asc_lit (by decide)) n)) (asc_lit (by decide))
theorem asc_fun (p : UInt8) (n : Nat) : Asc (funL p n) := by
  unfold funL
  split
  · exact asc_app (asc_lit (by decide)) (asc_brace n)
  · split
    · exact asc_app (asc_lit (by decide)) (asc_app (asc_lit (by decide)) (asc_brace n))
    · exact asc_app (asc_app (asc_lit (by decide)) (asc_app (asc_lit (by decide)) (asc_brace n))) (asc_lit (by decide))
theorem asc_ex (k : Int) (t : By) (nk : Nat) (fk : Int) : Asc (exL k t nk fk) := by
  unfold exL
  refine asc_ite (by exact asc_lit (by decide)) ?_
  refine asc_ite (by exact asc_lit (by decide)) ?_
  refine asc_ite (by exact asc_lit (by decide)) ?_
  refine asc_ite (by exact asc_lit (by decide)) ?_
  refine asc_ite (by exact asc_lit (by decide)) ?_
  refine asc_ite (by exact asc_lit (by decide)) ?_
  refine asc_ite (by exact asc_lit (by decide)) ?_
  refine asc_ite (by refine asc_app (asc_app (asc_lit ?_) (asc_list ?_ _)) (asc_lit ?_) <;> decide) ?_
  refine asc_ite (by refine asc_app (asc_app (asc_lit ?_) (asc_list ?_ _)) (asc_lit ?_) <;> decide) ?_
  refine asc_ite (by exact asc_ite (by exact asc_lit (by decide)) (by exact asc_lit (by decide))) ?_
  refine asc_ite (by exact asc_lit (by decide)) ?_
  refine asc_ite (by exact asc_lit (by decide)) ?_
  refine asc_ite (by exact asc_lit (by decide)) ?_
  refine asc_ite (by exact asc_lit (by decide)) ?_
  refine asc_ite (by refine asc_app (asc_app (asc_lit ?_) (asc_list ?_ _)) (asc_lit ?_) <;> decide) ?_
  refine asc_ite (by refine asc_app (asc_app (asc_lit ?_) (asc_list ?_ _)) (asc_lit ?_) <;> decide) ?_
  refine asc_ite (by exact asc_ite (by exact asc_lit (by decide)) (by exact asc_ite (by exact asc_lit (by decide)) (by exact asc_lit (by decide)))) ?_
  refine asc_ite (by exact asc_lit (by decide)) ?_
  refine asc_ite (by exact asc_lit (by decide)) ?_
  refine asc_ite (by exact asc_lit (by decide)) ?_
  refine asc_ite (by exact asc_lit (by decide)) ?_
  refine asc_ite (by exact asc_lit (by decide)) ?_
  exact asc_lit (by decide)
theorem asc_try (n : Int) : Asc (tryL n) := by
  unfold tryL
  refine asc_app (asc_lit (by decide)) (asc_app ?_ ?_)
  · split <;> exact asc_lit (by decide)
  · split <;> exact asc_lit (by decide)
theorem asc_st (k n : Int) (nk : Nat) : Asc (stL k n nk) := by
  unfold stL
  refine asc_ite (by exact asc_ite (by exact asc_lit (by decide)) (by exact asc_lit (by decide))) ?_
  refine asc_ite (by exact asc_lit (by decide)) ?_
  refine asc_ite (by exact asc_lit (by decide)) ?_
  refine asc_ite (by exact asc_lit (by decide)) ?_
  refine asc_ite (by exact asc_ite (by exact asc_lit (by decide)) (by exact asc_lit (by decide))) ?_
  refine asc_ite (by exact asc_lit (by decide)) ?_
  refine asc_ite (by exact asc_ite (by exact asc_lit (by decide)) (by exact asc_lit (by decide))) ?_
  refine asc_ite (by exact asc_lit (by decide)) ?_
  refine asc_ite (by exact asc_try n) ?_
  refine asc_ite (by exact asc_lit (by decide)) ?_
  refine asc_ite (by exact asc_brace nk) ?_
  refine asc_ite (by exact asc_lit (by decide)) ?_
  refine asc_ite (by exact asc_lit (by decide)) ?_
  refine asc_ite (by exact asc_lit (by decide)) ?_
  refine asc_ite (by refine asc_rep (asc_lit ?_) nk; decide) ?_
  exact asc_lit (by decide)
theorem asc_lay (p : UInt8) (k n : Int) (t : By) (nk : Nat) (fk : Int) : Asc (layB p k n t nk fk) := by
  unfold layB
  split
  · exact asc_fun p nk
  · split
    · exact asc_ex k t nk fk
    · exact asc_st k n nk
def PlcL (l : By) : Prop := ∀ c ∈ l, isUp c = true → Plc c
theorem plc_ite {c : Prop} [Decidable c] {a b : By} (ha : PlcL a) (hb : PlcL b) : PlcL (if c then a else b) := by split <;> assumption
theorem plc_app {a b : By} (ha : PlcL a) (hb : PlcL b) : PlcL (a ++ b) := fun c hc => by
  rcases List.mem_append.1 hc with h | h
  · exact ha c h
  · exact hb c h
theorem plc_rep {s : By} (h : PlcL s) : ∀ n, PlcL (repB s n)
  | 0 => fun c hc => by simp [repB] at hc
  | n + 1 => plc_app h (plc_rep h n)
theorem plc_list {c : UInt8} (h : Plc c) : ∀ n, PlcL (listB c n)
  | 0 => fun x hx => by simp [listB] at hx
  | 1 => fun x hx _ => by simp [listB] at hx; rw [hx]; exact h
  | n + 2 => fun x hx hu => by
    rw [listB] at hx
    simp only [List.mem_cons] at hx
    rcases hx with rfl | rfl | rfl | hx
    · exact h
    · exact absurd hu (by decide)
    · exact absurd hu (by decide)
    · exact plc_list h (n + 1) x hx hu
def plcB (c : UInt8) : Bool := !isUp c || (c == 80 || (c == 83 || (c == 66 || (c == 67 || (c == 65 || (c == 84 || (c == 77 || (c == 68 || (c == 70 || (c == 71 || c == 72))))))))))
theorem plc_lit {l : By} (h : l.all plcB = true) : PlcL l := fun c hc hu => by
  have := List.all_eq_true.1 h c hc
  unfold plcB at this
  rw [hu] at this
  unfold Plc
  simpa using this
theorem plc_brace (n : Nat) : PlcL (braceB n) := plc_app (plc_app (plc_lit (by decide)) (plc_rep (plc_lit (by decide)) n)) (plc_lit (by decide))
theorem plc_fun (p : UInt8) (n : Nat) : PlcL (funL p n) := by
  unfold funL
  split
  · exact plc_app (plc_lit (by decide)) (plc_brace n)
  · split
    · exact plc_app (plc_lit (by decide)) (plc_app (plc_lit (by decide)) (plc_brace n))
    · exact plc_app (plc_app (plc_lit (by decide)) (plc_app (plc_lit (by decide)) (plc_brace n))) (plc_lit (by decide))
theorem plc65 : Plc 65 := .inr (.inr (.inr (.inr (.inl rfl))))
theorem plc68 : Plc 68 := .inr (.inr (.inr (.inr (.inr (.inr (.inr (.inl rfl)))))))
theorem plc_ex (k : Int) (t : By) (nk : Nat) (fk : Int) : PlcL (exL k t nk fk) := by
  unfold exL
  refine plc_ite (by exact plc_lit (by decide)) ?_
  refine plc_ite (by exact plc_lit (by decide)) ?_
  refine plc_ite (by exact plc_lit (by decide)) ?_
  refine plc_ite (by exact plc_lit (by decide)) ?_
  refine plc_ite (by exact plc_lit (by decide)) ?_
  refine plc_ite (by exact plc_lit (by decide)) ?_
  refine plc_ite (by exact plc_lit (by decide)) ?_
  refine plc_ite (by refine plc_app (plc_app (plc_lit ?_) (plc_list plc65 _)) (plc_lit ?_) <;> decide) ?_
  refine plc_ite (by refine plc_app (plc_app (plc_lit ?_) (plc_list plc68 _)) (plc_lit ?_) <;> decide) ?_
  refine plc_ite (by exact plc_ite (by exact plc_lit (by decide)) (by exact plc_lit (by decide))) ?_
  refine plc_ite (by exact plc_lit (by decide)) ?_
  refine plc_ite (by exact plc_lit (by decide)) ?_
  refine plc_ite (by exact plc_lit (by decide)) ?_
  refine plc_ite (by exact plc_lit (by decide)) ?_
  refine plc_ite (by refine plc_app (plc_app (plc_lit ?_) (plc_list plc65 _)) (plc_lit ?_) <;> decide) ?_
  refine plc_ite (by refine plc_app (plc_app (plc_lit ?_) (plc_list plc65 _)) (plc_lit ?_) <;> decide) ?_
  refine plc_ite (by exact plc_ite (by exact plc_lit (by decide)) (by exact plc_ite (by exact plc_lit (by decide)) (by exact plc_lit (by decide)))) ?_
  refine plc_ite (by exact plc_lit (by decide)) ?_
  refine plc_ite (by exact plc_lit (by decide)) ?_
  refine plc_ite (by exact plc_lit (by decide)) ?_
  refine plc_ite (by exact plc_lit (by decide)) ?_
  refine plc_ite (by exact plc_lit (by decide)) ?_
  exact plc_lit (by decide)
theorem plc_try (n : Int) : PlcL (tryL n) := by
  unfold tryL
  refine plc_app (plc_lit (by decide)) (plc_app ?_ ?_)
  · split <;> exact plc_lit (by decide)
  · split <;> exact plc_lit (by decide)
theorem plc_st (k n : Int) (nk : Nat) : PlcL (stL k n nk) := by
  unfold stL
  refine plc_ite (by exact plc_ite (by exact plc_lit (by decide)) (by exact plc_lit (by decide))) ?_
  refine plc_ite (by exact plc_lit (by decide)) ?_
  refine plc_ite (by exact plc_lit (by decide)) ?_
  refine plc_ite (by exact plc_lit (by decide)) ?_
  refine plc_ite (by exact plc_ite (by exact plc_lit (by decide)) (by exact plc_lit (by decide))) ?_
  refine plc_ite (by exact plc_lit (by decide)) ?_
  refine plc_ite (by exact plc_ite (by exact plc_lit (by decide)) (by exact plc_lit (by decide))) ?_
  refine plc_ite (by exact plc_lit (by decide)) ?_
  refine plc_ite (by exact plc_try n) ?_
  refine plc_ite (by exact plc_lit (by decide)) ?_
  refine plc_ite (by exact plc_brace nk) ?_
  refine plc_ite (by exact plc_lit (by decide)) ?_
  refine plc_ite (by exact plc_lit (by decide)) ?_
  refine plc_ite (by exact plc_lit (by decide)) ?_
  refine plc_ite (by refine plc_rep (plc_lit ?_) nk; decide) ?_
  exact plc_lit (by decide)
theorem plc_lay (p : UInt8) (k n : Int) (t : By) (nk : Nat) (fk : Int) : PlcL (layB p k n t nk fk) := by
  unfold layB
  split
  · exact plc_fun p nk
  · split
    · exact plc_ex k t nk fk
    · exact plc_st k n nk
structure Spt where
  b : Nat
  o : Nat
  p : UInt8
def spc (s : Spt) : List Value := (scs s.b s.o (s.p.toNat : Int)).toList
def spcs (l : List Spt) : List Value := l.flatMap spc
theorem spcs_snoc (l : List Spt) (s : Spt) : spcs (l ++ [s]) = spcs l ++ spc s := by simp [spcs]
theorem spc_len (s : Spt) : (spc s).length = 2 := rfl
theorem spcs_len (l : List Spt) : (spcs l).length = l.length * 2 := by
  induction l with
  | nil => rfl
  | cons a l ih =>
    have : spcs (a :: l) = spc a ++ spcs l := rfl
    rw [this, List.length_append, ih, spc_len, List.length_cons]
    omega
theorem spcs_at : ∀ {l : List Spt} {i : Nat} {s : Spt} {j : Nat} {v : Value}, l[i]? = some s → (spc s)[j]? = some v → (spcs l)[i * 2 + j]? = some v
  | [], i, s, j, v, h, _ => by simp at h
  | a :: l, 0, s, j, v, h, k => by
    simp at h; subst h
    have e : spcs (a :: l) = spc a ++ spcs l := rfl
    rw [e, List.getElem?_append_left (by have := (List.getElem?_eq_some_iff.1 k).1; omega), Nat.zero_mul, Nat.zero_add]
    exact k
  | a :: l, i + 1, s, j, v, h, k => by
    simp at h
    have e : spcs (a :: l) = spc a ++ spcs l := rfl
    rw [e, List.getElem?_append_right (by rw [spc_len]; omega), spc_len, show (i + 1) * 2 + j - 2 = i * 2 + j from by omega]
    exact spcs_at h k
theorem spcs_take (l : List Spt) (n : Nat) : (spcs l).take (n * 2) = spcs (l.take n) := by
  induction l generalizing n with
  | nil => simp [spcs]
  | cons a l ih =>
    cases n with
    | zero => simp [spcs]
    | succ n =>
      have e : spcs (a :: l) = spc a ++ spcs l := rfl
      have e2 : spcs ((a :: l).take (n + 1)) = spc a ++ spcs (l.take n) := rfl
      rw [e, e2, ← ih n, show (n + 1) * 2 = (spc a).length + n * 2 from by rw [spc_len]; omega, List.take_length_add_append]
def Spots (B : Nat) (w : World) (v : Value) (l : List Spt) : Prop := w.ownsRow B 58 2 v l.length (spcs l)
theorem Spots.below {B : Nat} {w w' : World} {v : Value} {l : List Spt} (h : Spots B w v l) (hb : Below w.heap.size w w') : Spots B w' v l := h.kept (row := Option.none) ⟨hb.os, hb.tape, hb.output, hb.size, fun k hk _ => hb.block k hk⟩ (by cases hv : v.ownBlock <;> simp)
theorem Spots.iterAt {B k pos : Nat} {w : World} {v : Value} {l : List Spt} {s : ByteArray} (h : Spots B w v l) (hk : w.heap[k]? = some (.stringIter s pos)) (pos' : Nat) : Spots B (w.iterAt k s pos') v l := by
  unfold Spots at h ⊢
  refine ⟨h.1, ?_⟩
  rcases h.2 with hn | ⟨g, cap, cur, rfl, hb, hg, rest⟩
  · exact .inl hn
  · refine .inr ⟨g, cap, cur, rfl, hb, ?_, rest⟩
    have hne : g ≠ k := by
      rintro rfl
      rw [hg] at hk
      simp at hk
    rw [Lib.iterAt_other w k g s pos' hne]
    exact hg
theorem Spots.shape {B : Nat} {w : World} {v : Value} {l : List Spt} (h : Spots B w v l) : ∃ a c, v = .slice a l.length c := by
  rcases h.2 with ⟨h1, h2⟩ | ⟨g, cap, cur, h1, _⟩
  · exact ⟨none, 0, by rw [h1, h2]⟩
  · exact ⟨_, _, h1⟩
theorem Spots.last {B : Nat} {w : World} {v : Value} {l : List Spt} {s : Spt} (h : Spots B w v (l ++ [s])) : ∃ g c, v = .slice (some ⟨g, 0, none⟩) (l.length + 1) c ∧ l.length + 1 ≤ c ∧ (∀ j u, (spc s)[j]? = some u → w.cell? ⟨g, l.length * 2 + j, none⟩ = some u) ∧ Spots B w (.slice (some ⟨g, 0, none⟩) l.length c) l := by
  have hn : (l ++ [s]).length = l.length + 1 := by simp
  have h' := h
  unfold Spots at h
  rw [hn] at h
  have hc := fun g => World.ownsRow.cells h (g := g)
  rcases h.2 with ⟨h1, h2⟩ | ⟨g, cap, cur, h1, h2, h3, h4, h5, h6, h7⟩
  · omega
  · refine ⟨g, cap, h1, h4, fun j u hu => ?_, ?_⟩
    · have := hc g (by rw [h1]; rfl) (l.length * 2 + j) u (spcs_at (by simp) hu)
      have e : (⟨g, 0, none⟩ : Addr).add (l.length * 2 + j) = ⟨g, l.length * 2 + j, none⟩ := by unfold Addr.add; split <;> simp_all
      rwa [e] at this
    · refine ⟨spcs_len l, .inr ⟨g, cap, cur, rfl, h2, h3, by omega, h5, h6, ?_⟩⟩
      have e : (spcs (l ++ [s])).take (l.length * 2) = spcs l := by rw [spcs_take]; simp
      rw [← e, ← h7, List.take_take, Nat.min_eq_left (by omega)]
end Go.Proofs.YtinoaajohkafmaaGreat.Pr

/-
  The printer's appendKids.
-/
namespace Go.Proofs.YtinoaajohkafmaaGreat.Pr
open Go Go.RowKit Go.Proofs.YtinoaajohkafmaaGreat.Pa Go.Proofs.YtinoaajohkafmaaGreat.Uni
open Go.Proofs.YtinoaajohkafmaaGreat.Lx
set_option linter.unusedVariables false
set_option linter.unusedSimpArgs false
def zerS : Array Value := #[.pointer none, .int .i32 0]
theorem infoSp : (Tryz.prog.info? 58).map (fun i => (i.zero, i.size, i.bytes)) = some (some (.agg zerS), 2, 16) := by kernel_rfl
theorem run_bdS (w : World) (b o : Nat) (p : Int) : (Bd 58 #[(0, .pointer (some ⟨b, o, none⟩)), (1, .int .i32 p)]).run Tryz.prog w = .ok (.agg (scs b o p)) w := run_build w _ _ _ (by kernel_rfl)
def BsP (ps : Array (Nat × Value)) : Sem Value := Instr.buildSlice 59 1 ps
theorem bsP (ps : Array (Nat × Value)) : Instr.buildSlice 59 1 ps = BsP ps := (rfl)
theorem zerS_cells : (Value.agg zerS).cells.size = 2 := rfl
theorem run_bsP (w : World) (b o : Nat) (p : Int) : (BsP #[(0, .agg (scs b o p))]).run Tryz.prog w = .ok (.slice (some ⟨w.heap.size, 0, none⟩) 1 1) (w.alloc (.cells (scs b o p) 58)) := by
  obtain ⟨i, hi, hz, hs, hb⟩ := info_parts infoSp
  exact run_buildSlice w 59 58 1 _ (scs b o p) i (.agg zerS) Tryz.underlying59 hi hz (by rw [hs]; decide) (by rw [hs]; decide) (by rw [hs]; have h := Go.Great.fill_whole (s := 2) (by decide) [.agg (scs b o p)] ((Array.range (1 * 2)).map ((Value.agg zerS).cells[· % (Value.agg zerS).cells.size]!)) (fun v hv => by rw [List.mem_singleton.1 hv]; rfl) (by simp); simpa [Value.cells] using h)
theorem new_cellsS (w : World) (g : Nat) (hg : g = w.heap.size) (b o : Nat) (p : Int) : ∀ j v, (scs b o p).toList[j]? = some v → (w.alloc (.cells (scs b o p) 58)).cell? ((⟨g, 0, none⟩ : Addr).add j) = some v := fun j v hv => by
  subst hg
  have ha : (⟨w.heap.size, 0, none⟩ : Addr).add j = ⟨w.heap.size, j, none⟩ := by unfold Addr.add; split <;> simp_all
  rw [ha, (Blk.new w (scs b o p) _).cell]
  simpa using hv
theorem scs_one' (b o : Nat) (p : Int) : ∀ u ∈ (scs b o p).toList, u.oneCell' = true := fun u hu => by
  have h := scs_one b o p
  rw [Array.all_eq_true_iff_forall_mem] at h
  exact h u (by simpa using hu)
theorem scs_len (b o : Nat) (p : Int) : (scs b o p).toList.length = 1 * 2 := rfl
def newS (b o : Nat) : Nat → By → List Spt
  | _, [] => []
  | i, c :: r => ⟨b, o + i * 5, c⟩ :: newS b o (i + 1) r
theorem newS_snoc (b o : Nat) (c : UInt8) : ∀ (i : Nat) (r : By), newS b o i (r ++ [c]) = newS b o i r ++ [⟨b, o + (i + r.length) * 5, c⟩]
  | i, [] => by simp [newS]
  | i, d :: r => by
    rw [List.cons_append, newS, newS_snoc b o c (i + 1) r, newS, List.cons_append, List.length_cons, show i + 1 + r.length = i + (r.length + 1) from by omega]
theorem newS_len (b o : Nat) : ∀ (i : Nat) (r : By), (newS b o i r).length = r.length
  | i, [] => rfl
  | i, c :: r => by simp [newS, newS_len b o (i + 1) r]
def RestIs (b2 o2 m c i : Nat) (r : Value) : Prop := ∃ ra rc, r = .slice ra (m - i) rc ∧ (i < m → ra = some ⟨b2, o2 + i * 5, none⟩ ∧ rc = c - i)
structure AI (B : Nat) (wB wr : World) (g : Nat) (L P : By) (l : List Spt) (b2 o2 m c i j : Nat) (v r : Value) : Prop where
  le : j ≤ L.length
  it : wr.heap[g]? = some (.stringIter (bs L) j)
  bel : Below wB.heap.size wB wr
  own : Spots B wr v (l ++ newS b2 o2 0 (P.take i))
  pl : (L.drop j).filter isUp = P.drop i
  im : i ≤ m
  ip : i ≤ P.length
  rest : RestIs b2 o2 m c i r
attribute [local go_sem ↓] ldK stK alK bdK bsK ldN stN alN bdN bsN ldS stS alS bdS bsP
attribute [local irreducible] kcs ncs ncells scs zerS
attribute [local go_sem] run_bdS run_bsP
set_option maxRecDepth 100000 in
theorem isPlace_eq (c : UInt8) (w : World) : Calls Tryz.prog 51 #[.int .i32 (c.toNat : Int)] w fun e w' => e = .returned (.bool (isUp c)) ∧ w = w' := by
  have e : isUp c = (decide (65 ≤ (c.toNat : Int)) && decide ((c.toNat : Int) ≤ 90)) := by
    unfold isUp
    rw [Bool.eq_iff_iff]
    simp [UInt8.le_iff_toNat_le]
    omega
  rw [e]
  obtain ⟨P, hP⟩ : ∃ P : Int, (c.toNat : Int) = P := ⟨_, rfl⟩
  rw [hP]
  obtain ⟨u, fu⟩ : ∃ u, decide (65 ≤ P) = u := ⟨_, rfl⟩
  obtain ⟨v, fv⟩ : ∃ v, decide (P ≤ 90) = v := ⟨_, rfl⟩
  rw [fu, fv]
  clear e hP
  cases u; rotate_left; cases v
  all_goals (
    go_enter Tryz.func51, Tryz.ntmps51
    go_wp2
    go_ret
    exact ⟨rfl, rfl⟩)
theorem B_bs {l : By} {j : Nat} {c : UInt8} (h : l[j]? = some c) : B (bs l) j = c.toNat := by
  unfold B
  rw [bs_list, h]
  rfl
set_option maxRecDepth 100000 in
set_option maxHeartbeats 8000000 in
theorem app_any {wB w : World} (hw : Below wB.heap.size wB w) {b o : Nat} {N : Nd} {k n : Int} {tx : ByteArray} {ns : List ByteArray} {ks : List Tree} (hT : TAt wB b o (.mk k n tx ns ks) N) {p : UInt8} (hp : k = 14 → p = 65 ∨ p = 70 ∨ p = 71 ∨ p = 72) (hl : ks.length ≤ 100000) (hn : k = 38 → 1 ≤ n ∧ n ≤ 3) {v : Value} {l : List Spt} (hv : Spots wB.heap.size w v l) (hlen : l.length ≤ 1000000000) {b2 o2 : Nat} (hka : 0 < ks.length → N.kids.a = some ⟨b2, o2, none⟩) :
    Calls Tryz.prog 26 #[.agg (scs b o (p.toNat : Int)), v] w fun e w' => Below wB.heap.size wB w' ∧ (((placesB p k n tx.data.toList ks.length (headK ks)).length = ks.length ∧ ∃ v', e = .returned (.tuple #[v', .bool true]) ∧ Spots wB.heap.size w' v' (l ++ newS b2 o2 0 (placesB p k n tx.data.toList ks.length (headK ks)))) ∨ ((placesB p k n tx.data.toList ks.length (headK ks)).length ≠ ks.length ∧ ∃ v', e = .returned (.tuple #[v', .bool false]))) := by
  obtain ⟨L, hL⟩ : ∃ L, layB p k n tx.data.toList ks.length (headK ks) = L := ⟨_, rfl⟩
  obtain ⟨P, hP⟩ : ∃ P, placesB p k n tx.data.toList ks.length (headK ks) = P := ⟨_, rfl⟩
  have hPL : P = L.filter isUp := by rw [← hP, ← hL]; rfl
  have hasc : Asc L := by rw [← hL]; exact asc_lay _ _ _ _ _ _
  have hbx : Below w.heap.size w (w.alloc (.cells (scs b o (p.toNat : Int)) 58)) := bel1
  have hwx := hw.trans (hbx.mono hw.size)
  have hTx := hT.below hwx
  have cl := fun W (hb : Below wB.heap.size wB W) => lay_any (hT.below hb) hp hl hn
  rw [hL] at cl
  rw [hP]
  have n4 := hTx.k.kids (Below.refl _ _)
  have e5 := hT.kids
  have hc1 : ks.length ≤ N.kids.c := by
    have hr := hT.r
    unfold Rd at hr
    obtain ⟨-, -, -, -, xs, h5, h6⟩ := hr
    rw [← Rds.len h6]
    exact h5.2.1
  have hc2 : N.kids.c ≤ maxLen := by
    have hr := hT.r
    unfold Rd at hr
    obtain ⟨-, -, -, -, xs, h5, h6⟩ := hr
    exact h5.2.2.1
  have bS := Blk.new w (scs b o (p.toNat : Int)) 58
  have s0 := (bS.cell 0).trans (scs_0 b o (p.toNat : Int))
  have s1 := (bS.cell 1).trans (scs_1 b o (p.toNat : Int))
  obtain ⟨m, hm⟩ : ∃ m, ks.length = m := ⟨_, rfl⟩
  obtain ⟨c, hc⟩ : ∃ c, N.kids.c = c := ⟨_, rfl⟩
  rw [hm] at hka hl hc1 ⊢
  rw [e5, hm, hc] at n4
  rw [hc] at hc1 hc2
  have hc2i : (c : Int) ≤ 9223372036854775807 := by unfold maxLen at hc2; omega
  obtain ⟨i54, hi, hz0, hz1, hz2⟩ := info_parts infoSp
  obtain ⟨Q, hQ⟩ : ∃ Q : Int, (p.toNat : Int) = Q := ⟨_, rfl⟩
  rw [hQ] at cl hbx hwx n4 s0 s1 ⊢
  have r0 : RestIs b2 o2 m c 0 (.slice N.kids.a m c) := ⟨N.kids.a, c, by simp, fun h => ⟨by rw [hka h]; simp, by simp⟩⟩
  obtain ⟨a4, ha4⟩ : ∃ a4, N.kids.a = a4 := ⟨_, rfl⟩
  rw [ha4] at n4 r0
  obtain ⟨va, vc, rfl⟩ := hv.shape
  have hvx := hv.below hbx
  have HW := Lib.hid hwx
  have HV := Lib.hid hvx
  have HL := Lib.hid hasc
  have HP := Lib.hid hPL
  have HR0 := Lib.hid r0
  have HK := Lib.hid hka
  have HC := Lib.hid hc1
  clear hw hT hTx hp hn hv hP hL bS hm hc e5 hc2 hQ hbx hwx hvx hasc hPL r0 ha4 hka hc1
  go_enter Tryz.func26, Tryz.ntmps26
  go_wp2_with (go_at_call 50; (with_reducible refine (cl _ HW.out).mono ?_); intro e w2 hp; obtain ⟨rfl, hb⟩ := hp; have HW2 := Lib.hid (HW.out.trans (hb.mono HW.out.size)); have HV2 := Lib.hid (HV.out.below hb); clear hb; refine Hid.out ?_)
  refine Lib.hid ?_
  go_wp2
  go_loopw [1, 6] (fun v r wr => ∃ i j, AI wB.heap.size wB wr w2.heap.size L P l b2 o2 m c i j v r) (fun _ _ wr => L.length - wr.iterPos w2.heap.size)
  case atStart =>
    refine ⟨0, 0, Nat.zero_le _, World.iter_heap _ _ _, HW2.out.trans ((iter_below (Nat.le_refl _) (bs L)).mono HW2.out.size), ?_, by rw [HP.out]; simp, Nat.zero_le _, Nat.zero_le _, HR0.out⟩
    have := HV2.out.below (iter_below (Nat.le_refl _) (bs L))
    simpa [newS] using this
  case round =>
    obtain ⟨i, j, hI⟩ := hrel
    have hit := hI.it
    have hgB : wB.heap.size ≤ w2.heap.size := HW2.out.size
    by_cases hj : j < L.length
    · obtain ⟨ch, hch⟩ : ∃ ch, L[j]? = some ch := ⟨_, List.getElem?_eq_getElem hj⟩
      have hcl : ch.toNat < 128 := HL.out ch (List.mem_of_getElem? hch)
      have hp : j < (bs L).size := by rw [bs_size]; exact hj
      have hdec : Utf8.decode (bs L) j = (ch.toNat, 1) := by rw [dec_lo (by rw [B_bs hch]; exact hcl), B_bs hch]
      have hnx : ∀ ty, (Instr.next (.pointer (some ⟨w2.heap.size, 0, none⟩)) true ty).run Tryz.prog wr = _ := fun ty => Lib.run_next_any_at wr w2.heap.size (bs L) j ty hit hp
      rw [hdec] at hnx
      have hh := Lib.iterAt_heap wr w2.heap.size (bs L) j (j + 1) hit
      have hb2 : Below wB.heap.size wB (wr.iterAt w2.heap.size (bs L) (j + 1)) := Lib.below_iterAt hI.bel hgB (bs L) (j + 1)
      have hown := hI.own.iterAt hit (j + 1)
      have hdrop : L.drop j = ch :: L.drop (j + 1) := by
        obtain ⟨hl2, rfl⟩ := List.getElem?_eq_some_iff.1 hch
        exact List.drop_eq_getElem_cons hl2
      have hpl := hI.pl
      rw [hdrop] at hpl
      have cpl := fun W => isPlace_eq ch W
      obtain ⟨X, hX⟩ : ∃ X : Int, (ch.toNat : Int) = X := ⟨_, rfl⟩
      obtain ⟨w3, hw3⟩ : ∃ w3, wr.iterAt w2.heap.size (bs L) (j + 1) = w3 := ⟨_, rfl⟩
      rw [hX] at cpl hnx
      rw [hw3] at hnx hh hb2 hown
      have HI := Lib.hid hI
      have HO := Lib.hid hown
      have HB3 := Lib.hid hb2
      have HH := Lib.hid hh
      have HJ := Lib.hid hj
      have HIT := Lib.hid hit
      cases hu : isUp ch with
      | false =>
        rw [hu] at cpl
        rw [List.filter_cons_of_neg (by simp [hu])] at hpl
        have HPL := Lib.hid hpl
        clear hI hpl hown hb2 hh hj hch hcl hp hdec hdrop hX hw3 hu hit
        go_wp2_with (go_at_call 51; (with_reducible refine (cpl _).mono ?_); rintro e w4 ⟨rfl, rfl⟩)
        go_roundw
        case rel => exact ⟨i, j + 1, HJ.out, HH.out, HB3.out, HO.out, HPL.out, HI.out.im, HI.out.ip, HI.out.rest⟩
        case measure => have := HJ.out; simp only [World.iterPos, HH.out, HIT.out]; omega
      | true =>
        rw [hu] at cpl
        rw [List.filter_cons_of_pos (by simp [hu])] at hpl
        have hiP : i < P.length := by
          have := congrArg List.length hpl
          rw [List.length_drop] at this
          simp at this
          omega
        have hPi : P[i]? = some ch := by
          have := congrArg List.head? hpl
          rw [List.head?_drop] at this
          exact this.symm
        have hPd : P.drop (i + 1) = (L.drop (j + 1)).filter isUp := by
          have := congrArg List.tail hpl
          rw [List.tail_drop] at this
          exact this.symm
        have hPt : P.take (i + 1) = P.take i ++ [ch] := by
          rw [List.take_add_one, hPi]
          rfl
        have him := hI.im
        obtain ⟨ra, rc, hr, hrr⟩ := hI.rest
        subst hr
        have HPD := Lib.hid hPd
        have HPT := Lib.hid hPt
        have HIP := Lib.hid hiP
        by_cases hlt : i < m
        · obtain ⟨rfl, rfl⟩ := hrr hlt
          obtain ⟨M, hM⟩ : ∃ M, m - i = M := ⟨_, rfl⟩
          obtain ⟨C, hC⟩ : ∃ C, c - i = C := ⟨_, rfl⟩
          have hM1 : ((M : Int) == 0) = false := by simp; omega
          have hM0 : 1 ≤ M := by omega
          have hMC : M ≤ C := by have := HC.out; omega
          obtain ⟨va3, vc3, rfl⟩ := hown.shape
          obtain ⟨K, hK⟩ : ∃ K, (l ++ newS b2 o2 0 (P.take i)).length = K := ⟨_, rfl⟩
          have hK2 : K ≤ 1000100000 := by
            rw [← hK, List.length_append, newS_len, List.length_take]
            have := HI.out.im
            omega
          have hown2 := hown
          unfold Spots at hown2
          rw [hK] at hown2
          have hws := hb2.size
          have HOWN := Lib.hid hown2
          have ITK : Hid (∀ w5, (w3.alloc (.cells (scs b2 (o2 + i * 5) X) 58)).grownBy w5 (Value.slice va3 K vc3).ownBlock → w5.heap[w2.heap.size]? = some (.stringIter (bs L) (j + 1))) := Lib.hid (fun w5 hg => by
            have hlt3 : w2.heap.size < w3.heap.size := (Array.getElem?_eq_some_iff.1 hh).1
            have ha : (w3.alloc (.cells (scs b2 (o2 + i * 5) X) 58)).heap[w2.heap.size]? = some (.stringIter (bs L) (j + 1)) := by rw [heap_alloc_old _ _ hlt3]; exact hh
            have hne : (Value.slice va3 K vc3).ownBlock ≠ some w2.heap.size := by
              rcases hown2.2 with ⟨h1, _⟩ | ⟨g, cap, cur, h1, _, h3, _⟩
              · rw [h1]; simp [Value.ownBlock]
              · rw [h1]
                simp [Value.ownBlock]
                rintro rfl
                rw [h3] at hh
                simp at hh
            rw [hg.block w2.heap.size (by simp; omega) (fun e => hne e.symm)]
            exact ha)
          rw [hK]
          rw [hM, hC]
          have HM := Lib.hid hM
          have HCC := Lib.hid hC
          have HKK := Lib.hid hK
          have HX := Lib.hid hX
          have hMi : (M : Int) ≤ 9223372036854775807 := by omega
          have hCi : (C : Int) ≤ 9223372036854775807 := by omega
          have HLT := Lib.hid hlt
          clear hI hpl hown hb2 hh hj hch hcl hp hdec hdrop hX hw3 hu hit hiP hPi hPd hPt him hrr hM hC hK hlt
          go_wp2_with (first | (go_at_call 51; (with_reducible refine (cpl _).mono ?_); rintro e w4 ⟨rfl, rfl⟩) | (at_builtin; refine wpList_append_own _ rfl _ _ 59 rfl wB.heap.size 58 i54 (.agg zerS) 2 16 Tryz.underlying59 hi hz0 hz1 hz2 zerS_cells (by decide) _ _ _ rfl (hown2.alloc _) ⟨w3.heap.size, 0, none⟩ 1 1 (scs b2 (o2 + i * 5) X).toList rfl (scs_len _ _ _) (new_cellsS w3 _ rfl _ _ _) (scs_one' _ _ _) (by unfold maxLen; omega) (by omega) (by simp; omega) ?_; intro v' w5 hown5 hgrow5 _; have HO5 := Lib.hid hown5; have HG5 := Lib.hid hgrow5; clear hown5 hgrow5 hown2))
          go_roundw
          case rel =>
            have hM := HM.out
            have hC := HCC.out
            have hi2 := HLT.out
            have hc2 := HC.out
            have hP2 := HIP.out
            refine ⟨i + 1, j + 1, HJ.out, ITK.out w5 HG5.out, ((HB3.out.alloc HB3.out.size _).grown HG5.out (by have := HB3.out.size; simp; omega) (fun k hk => ((HOWN.out.alloc (.cells (scs b2 (o2 + i * 5) X) 58)).lt k hk).1)), ?_, HPD.out.symm, by omega, by omega, ?_⟩
            · rw [HPT.out, newS_snoc, ← List.append_assoc]
              have h5 := HO5.out
              have ht : (P.take i).length = i := by rw [List.length_take]; omega
              unfold Spots
              rw [List.length_append, HKK.out, spcs_snoc, ht, Nat.zero_add]
              rw [← HX.out] at h5
              exact h5
            · refine ⟨_, _, by rw [show m - (i + 1) = M - 1 from by omega], fun h => ⟨?_, by omega⟩⟩
              rw [if_neg (by omega), show o2 + (i + 1) * 5 = o2 + i * 5 + 5 from by omega]
          case measure =>
            have := HJ.out
            simp only [World.iterPos, ITK.out w5 HG5.out, HIT.out]
            omega
        · have hme : m - i = 0 := by omega
          have hne : P.length ≠ m := by omega
          rw [hme]
          have HNE := Lib.hid hne
          clear hI hpl hown hb2 hh hj hch hcl hp hdec hdrop hX hw3 hu hit hiP hPi hPd hPt him hrr hlt hme hne
          go_wp2_with (go_at_call 51; (with_reducible refine (cpl _).mono ?_); rintro e w4 ⟨rfl, rfl⟩)
          go_ret2
          exact ⟨HB3.out, .inr ⟨HNE.out, _, rfl⟩⟩
    · have hnx : ∀ ty, (Instr.next (.pointer (some ⟨w2.heap.size, 0, none⟩)) true ty).run Tryz.prog wr = _ := fun ty => Lib.run_next_end_at wr w2.heap.size (bs L) j ty hit (by rw [bs_size]; exact hj)
      have hje : j = L.length := by have := hI.le; omega
      have hpe : P.drop i = [] := by have := hI.pl; rw [hje, List.drop_length] at this; exact this.symm
      have hPi : P.length = i := by
        have := congrArg List.length hpe
        rw [List.length_drop] at this
        have h2 := hI.ip
        simp at this
        omega
      obtain ⟨ra, rc, hr, hrr⟩ := hI.rest
      subst hr
      have HI := Lib.hid hI
      have HPI := Lib.hid hPi
      obtain ⟨M, hM⟩ : ∃ M, m - i = M := ⟨_, rfl⟩
      have HM := Lib.hid hM
      rw [hM]
      clear hI hit hj hje hpe hPi hrr hM
      by_cases h0 : M = 0
      · subst h0
        go_wp2
        go_ret2
        have h1 := HPI.out
        have h2 := HM.out
        have h3 := HI.out.im
        refine ⟨HI.out.bel, .inl ⟨by omega, _, rfl, ?_⟩⟩
        have h4 := HI.out.own
        rw [List.take_of_length_le (by omega)] at h4
        exact h4
      · have f0 : ((M : Int) == 0) = false := by simp; omega
        have HM0 := Lib.hid h0
        clear h0
        go_wp2
        go_ret2
        have h1 := HPI.out
        have h2 := HM.out
        have h3 := HM0.out
        exact ⟨HI.out.bel, .inr ⟨by omega, _, rfl⟩⟩
end Go.Proofs.YtinoaajohkafmaaGreat.Pr
