/-
  Texts of this seat in build order: PrEx, PrKid, EyNm.
-/
import Derived.Test.YtinoaajohkafmaaGreatMt08
import Derived.Test.YtinoaajohkafmaaGreatMt05
import Derived.Maps.OwnSet
import Derived.Maps.AppendAt
import Derived.Deep.LoopGhost
import Derived.Deep.RegionLaw
/-
  The reference's expression, kind by kind.
-/
namespace Go.Proofs.YtinoaajohkafmaaGreat.Pr
open Go Go.RowKit Go.Proofs.YtinoaajohkafmaaGreat.Pa Go.Proofs.YtinoaajohkafmaaGreat.Uni
open Go.Proofs.YtinoaajohkafmaaGreat.Lx
set_option linter.unusedVariables false
set_option linter.unusedSimpArgs false
def onlyV (a b c : Bool) (n : Int) (t : ByteArray) (m : Nat) : Bool := (a || n == 0) && ((b || t.toList.isEmpty) && (c || m == 0))
theorem len_zero (ns : List ByteArray) : (ns.length == 0) = ns.isEmpty := by cases ns <;> simp
theorem tl_data_only {a b c : Bool} {n : Int} {t : ByteArray} {ns : List ByteArray} : onlyV a b c n t ns.length = ((a || decide (n = 0)) && ((b || t.data.toList.isEmpty) && (c || ns.isEmpty))) := by unfold onlyV; rw [tl_data, len_zero]; rfl
mutual
def Str : Tree → Prop
  | .mk k n t ns ks => t.size ≤ 1048576 ∧ (∀ x ∈ ns, x.size ≤ 1048576) ∧ Strs ks
def Strs : List Tree → Prop
  | [] => True
  | t :: ts => Str t ∧ Strs ts
end
theorem Str.of {k n : Int} {t : ByteArray} {ns : List ByteArray} {ks : List Tree} (h : Str (.mk k n t ns ks)) : t.size ≤ 1048576 ∧ (∀ x ∈ ns, x.size ≤ 1048576) ∧ Strs ks := by unfold Str at h; exact h
theorem Strs.at : ∀ {ts : List Tree} {i : Nat} {t : Tree}, Strs ts → ts[i]? = some t → Str t
  | [], i, t, _, h => by simp at h
  | a :: l, 0, t, hs, h => by
    simp at h; subst h
    unfold Strs at hs
    exact hs.1
  | a :: l, i + 1, t, hs, h => by
    simp at h
    unfold Strs at hs
    exact Strs.at hs.2 h
theorem Strs.drop : ∀ {ts : List Tree} (n : Nat), Strs ts → Strs (ts.drop n)
  | ts, 0, h => h
  | [], n + 1, h => h
  | a :: l, n + 1, h => by
    unfold Strs at h
    exact Strs.drop n h.2
def ExpC (t : Tree) : Prop := ∀ {N : Nd} {w : World}, Rd w t N → Str t → Calls Tryz.prog 71 #[.agg (ncs N)] w (PostR w (.bool (okT 65 t)))
def ExpsC (ts : List Tree) : Prop := ∀ {s : Sl} {xs : List Nd} {w : World}, Lst w s xs → Rds w ts xs → Strs ts → Calls Tryz.prog 69 #[.slice s.a s.n s.c] w (PostR w (.bool (allT 65 ts)))
theorem named_p (s : ByteArray) (w : World) (hs : s.size ≤ 1048576) : Calls Tryz.prog 97 #[.string s] w (PostR w (.bool (nameB s))) := by
  refine (named_b s w hs).mono ?_
  rintro e w' ⟨rfl, rfl⟩
  exact ⟨rfl, Below.refl _ _⟩
theorem ex_start {k n : Int} {tx : ByteArray} {ns : List ByteArray} {ks : List Tree} {N : Nd} {w : World} (hr : Rd w (.mk k n tx ns ks) N) (IH : ExpsC ks) (hs : Strs ks) :
    Blk (w.alloc (.cells (ncs N) 25)) w.heap.size (ncs N) 25 ∧
    (w.alloc (.cells (ncs N) 25)).cell? ⟨w.heap.size, 0, none⟩ = some (.int .i64 N.kind) ∧
    (w.alloc (.cells (ncs N) 25)).cell? ⟨w.heap.size, 1, none⟩ = some (.int .i64 N.num) ∧
    (w.alloc (.cells (ncs N) 25)).cell? ⟨w.heap.size, 2, none⟩ = some (.string N.text) ∧
    (w.alloc (.cells (ncs N) 25)).cell? ⟨w.heap.size, 3, none⟩ = some (.slice N.names.a N.names.n N.names.c) ∧
    (w.alloc (.cells (ncs N) 25)).cell? ⟨w.heap.size, 4, none⟩ = some (.slice N.kids.a N.kids.n N.kids.c) ∧
    Hid (Below w.heap.size w (w.alloc (.cells (ncs N) 25))) ∧
    N.kind = k ∧ N.num = n ∧ N.text = tx ∧ N.names.n = ns.length ∧ N.kids.n = ks.length ∧
    ∀ W, Below w.heap.size w W → Calls Tryz.prog 69 #[.slice N.kids.a N.kids.n N.kids.c] W (PostR W (.bool (allT 65 ks))) := by
  have bN := Blk.new w (ncs N) 25
  unfold Rd at hr
  obtain ⟨h1, h2, h3, h4, xs, h5, h6⟩ := hr
  refine ⟨bN, (bN.cell 0).trans (ncs_0 N), (bN.cell 1).trans (ncs_1 N), (bN.cell 2).trans (ncs_2 N), (bN.cell 3).trans (ncs_3 N), (bN.cell 4).trans (ncs_4 N), Lib.hid bel1, h1, h2, h3, h4.1, by rw [h5.1, Rds.len h6], fun W hb => ?_⟩
  exact IH (h5.kept (kept_below hb)) (h6.below hb) hs
theorem okx_1 (n : Int) (tx : ByteArray) (ns : List ByteArray) (ks : List Tree) : okT 65 (.mk 1 n tx ns ks) = (onlyV true false false n tx ns.length && (decide (ks.length = 0) && (decide (0 ≤ n) && decide (n ≤ 9007199254740991)))) := by
  rw [tl_data_only]
  rcases ks with _ | ⟨a, _ | ⟨b, _ | ⟨c, _ | ⟨d, ks⟩⟩⟩⟩ <;> simp [okT, okKs, hereB, kindB, textB, namesB, numB, elseB, elseL, placesB, layB, exL, stL, funL, tryL, headK, emptyB, onlyV, isUp, allT, up_app, up_list, up_rep, up_brace, propB, bin12L, binL] <;> grind
theorem okx_2 (n : Int) (tx : ByteArray) (ns : List ByteArray) (ks : List Tree) : okT 65 (.mk 2 n tx ns ks) = (onlyV false true false n tx ns.length && (decide (ks.length = 0) && rtB tx)) := by
  rw [tl_data_only]
  rcases ks with _ | ⟨a, _ | ⟨b, _ | ⟨c, _ | ⟨d, ks⟩⟩⟩⟩ <;> simp [okT, okKs, hereB, kindB, textB, namesB, numB, elseB, elseL, placesB, layB, exL, stL, funL, tryL, headK, emptyB, onlyV, isUp, allT, up_app, up_list, up_rep, up_brace, propB, bin12L, binL] <;> grind
theorem okx_3 (n : Int) (tx : ByteArray) (ns : List ByteArray) (ks : List Tree) : okT 65 (.mk 3 n tx ns ks) = (onlyV false false false n tx ns.length && decide (ks.length = 0)) := by
  rw [tl_data_only]
  rcases ks with _ | ⟨a, _ | ⟨b, _ | ⟨c, _ | ⟨d, ks⟩⟩⟩⟩ <;> simp [okT, okKs, hereB, kindB, textB, namesB, numB, elseB, elseL, placesB, layB, exL, stL, funL, tryL, headK, emptyB, onlyV, isUp, allT, up_app, up_list, up_rep, up_brace, propB, bin12L, binL] <;> grind
theorem okx_4 (n : Int) (tx : ByteArray) (ns : List ByteArray) (ks : List Tree) : okT 65 (.mk 4 n tx ns ks) = (onlyV false false false n tx ns.length && decide (ks.length = 0)) := by
  rw [tl_data_only]
  rcases ks with _ | ⟨a, _ | ⟨b, _ | ⟨c, _ | ⟨d, ks⟩⟩⟩⟩ <;> simp [okT, okKs, hereB, kindB, textB, namesB, numB, elseB, elseL, placesB, layB, exL, stL, funL, tryL, headK, emptyB, onlyV, isUp, allT, up_app, up_list, up_rep, up_brace, propB, bin12L, binL] <;> grind
theorem okx_5 (n : Int) (tx : ByteArray) (ns : List ByteArray) (ks : List Tree) : okT 65 (.mk 5 n tx ns ks) = (onlyV false false false n tx ns.length && decide (ks.length = 0)) := by
  rw [tl_data_only]
  rcases ks with _ | ⟨a, _ | ⟨b, _ | ⟨c, _ | ⟨d, ks⟩⟩⟩⟩ <;> simp [okT, okKs, hereB, kindB, textB, namesB, numB, elseB, elseL, placesB, layB, exL, stL, funL, tryL, headK, emptyB, onlyV, isUp, allT, up_app, up_list, up_rep, up_brace, propB, bin12L, binL] <;> grind
theorem okx_6 (n : Int) (tx : ByteArray) (ns : List ByteArray) (ks : List Tree) : okT 65 (.mk 6 n tx ns ks) = (onlyV false false false n tx ns.length && decide (ks.length = 0)) := by
  rw [tl_data_only]
  rcases ks with _ | ⟨a, _ | ⟨b, _ | ⟨c, _ | ⟨d, ks⟩⟩⟩⟩ <;> simp [okT, okKs, hereB, kindB, textB, namesB, numB, elseB, elseL, placesB, layB, exL, stL, funL, tryL, headK, emptyB, onlyV, isUp, allT, up_app, up_list, up_rep, up_brace, propB, bin12L, binL] <;> grind
theorem okx_7 (n : Int) (tx : ByteArray) (ns : List ByteArray) (ks : List Tree) : okT 65 (.mk 7 n tx ns ks) = (onlyV false false false n tx ns.length && decide (ks.length = 0)) := by
  rw [tl_data_only]
  rcases ks with _ | ⟨a, _ | ⟨b, _ | ⟨c, _ | ⟨d, ks⟩⟩⟩⟩ <;> simp [okT, okKs, hereB, kindB, textB, namesB, numB, elseB, elseL, placesB, layB, exL, stL, funL, tryL, headK, emptyB, onlyV, isUp, allT, up_app, up_list, up_rep, up_brace, propB, bin12L, binL] <;> grind
theorem okx_8 (n : Int) (tx : ByteArray) (ns : List ByteArray) (ks : List Tree) : okT 65 (.mk 8 n tx ns ks) = (onlyV false true false n tx ns.length && (decide (ks.length = 0) && varB tx)) := by
  rw [tl_data_only]
  rcases ks with _ | ⟨a, _ | ⟨b, _ | ⟨c, _ | ⟨d, ks⟩⟩⟩⟩ <;> simp [okT, okKs, hereB, kindB, textB, namesB, numB, elseB, elseL, placesB, layB, exL, stL, funL, tryL, headK, emptyB, onlyV, isUp, allT, up_app, up_list, up_rep, up_brace, propB, bin12L, binL] <;> grind
theorem okx_9 (n : Int) (tx : ByteArray) (ns : List ByteArray) (ks : List Tree) : okT 65 (.mk 9 n tx ns ks) = (onlyV false false false n tx ns.length && allT 65 ks) := by
  have h := okKs_rep 65 ks
  rw [okT, tl_data_only]
  simp [hereB, kindB, textB, namesB, numB, elseB, placesB, layB, exL, emptyB, isUp, up_app, up_list, h, Bool.and_assoc, Bool.and_comm, Bool.and_left_comm]
theorem okx_15 (n : Int) (tx : ByteArray) (ns : List ByteArray) (ks : List Tree) : okT 65 (.mk 15 n tx ns ks) = (onlyV false true false n tx ns.length && (decide (ks.length = 1) && (nameB tx && (decide (wordF tx.data.toList < 2) && allT 65 ks)))) := by
  rw [tl_data_only]
  rcases ks with _ | ⟨a, _ | ⟨b, _ | ⟨c, _ | ⟨d, ks⟩⟩⟩⟩ <;> simp [okT, okKs, hereB, kindB, textB, namesB, numB, elseB, elseL, placesB, layB, exL, stL, funL, tryL, headK, emptyB, onlyV, isUp, allT, up_app, up_list, up_rep, up_brace, propB, bin12L, binL] <;> grind
theorem okx_16 (n : Int) (tx : ByteArray) (ns : List ByteArray) (ks : List Tree) : okT 65 (.mk 16 n tx ns ks) = (onlyV false false false n tx ns.length && (decide (ks.length = 2) && allT 65 ks)) := by
  rw [tl_data_only]
  rcases ks with _ | ⟨a, _ | ⟨b, _ | ⟨c, _ | ⟨d, ks⟩⟩⟩⟩ <;> simp [okT, okKs, hereB, kindB, textB, namesB, numB, elseB, elseL, placesB, layB, exL, stL, funL, tryL, headK, emptyB, onlyV, isUp, allT, up_app, up_list, up_rep, up_brace, propB, bin12L, binL] <;> grind
theorem okx_17 (n : Int) (tx : ByteArray) (ns : List ByteArray) (ks : List Tree) : okT 65 (.mk 17 n tx ns ks) = (onlyV false false false n tx ns.length && (decide (1 ≤ ks.length) && allT 65 ks)) := by
  rw [tl_data_only]
  rcases ks with _ | ⟨a, ks⟩
  · simp [okT, okKs, hereB, kindB, textB, namesB, numB, elseB, elseL, placesB, layB, exL, stL, funL, tryL, headK, emptyB, onlyV, isUp, allT, up_app, up_list, up_rep, up_brace]
  · have h := okKs_rep 65 ks
    simp only [allT, List.all_cons]
    simp [okT, okKs, hereB, kindB, textB, namesB, numB, elseB, elseL, placesB, layB, exL, stL, funL, tryL, headK, emptyB, onlyV, isUp, up_app, up_list, up_rep, up_brace, h]
    simp [allT, Bool.and_assoc, Bool.and_comm, Bool.and_left_comm]
theorem okx_18 (n : Int) (tx : ByteArray) (ns : List ByteArray) (ks : List Tree) : okT 65 (.mk 18 n tx ns ks) = (onlyV false false false n tx ns.length && (decide (1 ≤ ks.length) && allT 65 ks)) := by
  rw [tl_data_only]
  rcases ks with _ | ⟨a, ks⟩
  · simp [okT, okKs, hereB, kindB, textB, namesB, numB, elseB, elseL, placesB, layB, exL, stL, funL, tryL, headK, emptyB, onlyV, isUp, allT, up_app, up_list, up_rep, up_brace]
  · have h := okKs_rep 65 ks
    simp only [allT, List.all_cons]
    simp [okT, okKs, hereB, kindB, textB, namesB, numB, elseB, elseL, placesB, layB, exL, stL, funL, tryL, headK, emptyB, onlyV, isUp, up_app, up_list, up_rep, up_brace, h]
    simp [allT, Bool.and_assoc, Bool.and_comm, Bool.and_left_comm]
theorem okx_20 (n : Int) (tx : ByteArray) (ns : List ByteArray) (ks : List Tree) : okT 65 (.mk 20 n tx ns ks) = (onlyV false true false n tx ns.length && (decide (ks.length = 2) && (allT 65 ks && bin12L.contains tx.data.toList))) := by
  rw [tl_data_only]
  rcases ks with _ | ⟨a, _ | ⟨b, _ | ⟨c, _ | ⟨d, ks⟩⟩⟩⟩ <;> simp [okT, okKs, hereB, kindB, textB, namesB, numB, elseB, elseL, placesB, layB, exL, stL, funL, tryL, headK, emptyB, onlyV, isUp, allT, up_app, up_list, up_rep, up_brace, propB, bin12L, binL] <;> grind
theorem okx_21 (n : Int) (tx : ByteArray) (ns : List ByteArray) (ks : List Tree) : okT 65 (.mk 21 n tx ns ks) = (onlyV false false false n tx ns.length && (decide (ks.length = 2) && allT 65 ks)) := by
  rw [tl_data_only]
  rcases ks with _ | ⟨a, _ | ⟨b, _ | ⟨c, _ | ⟨d, ks⟩⟩⟩⟩ <;> simp [okT, okKs, hereB, kindB, textB, namesB, numB, elseB, elseL, placesB, layB, exL, stL, funL, tryL, headK, emptyB, onlyV, isUp, allT, up_app, up_list, up_rep, up_brace, propB, bin12L, binL] <;> grind
theorem okx_22 (n : Int) (tx : ByteArray) (ns : List ByteArray) (ks : List Tree) : okT 65 (.mk 22 n tx ns ks) = (onlyV false false false n tx ns.length && (decide (ks.length = 2) && allT 65 ks)) := by
  rw [tl_data_only]
  rcases ks with _ | ⟨a, _ | ⟨b, _ | ⟨c, _ | ⟨d, ks⟩⟩⟩⟩ <;> simp [okT, okKs, hereB, kindB, textB, namesB, numB, elseB, elseL, placesB, layB, exL, stL, funL, tryL, headK, emptyB, onlyV, isUp, allT, up_app, up_list, up_rep, up_brace, propB, bin12L, binL] <;> grind
theorem okx_23 (n : Int) (tx : ByteArray) (ns : List ByteArray) (ks : List Tree) : okT 65 (.mk 23 n tx ns ks) = (onlyV false false false n tx ns.length && (decide (ks.length = 3) && allT 65 ks)) := by
  rw [tl_data_only]
  rcases ks with _ | ⟨a, _ | ⟨b, _ | ⟨c, _ | ⟨d, ks⟩⟩⟩⟩ <;> simp [okT, okKs, hereB, kindB, textB, namesB, numB, elseB, elseL, placesB, layB, exL, stL, funL, tryL, headK, emptyB, onlyV, isUp, allT, up_app, up_list, up_rep, up_brace, propB, bin12L, binL] <;> grind
end Go.Proofs.YtinoaajohkafmaaGreat.Pr

/-
  A node's kids, in memory.
-/
namespace Go.Proofs.YtinoaajohkafmaaGreat.Pr
open Go Go.RowKit Go.Proofs.YtinoaajohkafmaaGreat.Pa Go.Proofs.YtinoaajohkafmaaGreat.Uni
open Go.Proofs.YtinoaajohkafmaaGreat.Lx
set_option linter.unusedVariables false
set_option linter.unusedSimpArgs false
theorem nd_start {k n : Int} {tx : ByteArray} {ns : List ByteArray} {ks : List Tree} {N : Nd} {w : World} (hr : Rd w (.mk k n tx ns ks) N) :
    Blk (w.alloc (.cells (ncs N) 25)) w.heap.size (ncs N) 25 ∧
    (w.alloc (.cells (ncs N) 25)).cell? ⟨w.heap.size, 0, none⟩ = some (.int .i64 N.kind) ∧
    (w.alloc (.cells (ncs N) 25)).cell? ⟨w.heap.size, 1, none⟩ = some (.int .i64 N.num) ∧
    (w.alloc (.cells (ncs N) 25)).cell? ⟨w.heap.size, 2, none⟩ = some (.string N.text) ∧
    (w.alloc (.cells (ncs N) 25)).cell? ⟨w.heap.size, 3, none⟩ = some (.slice N.names.a N.names.n N.names.c) ∧
    (w.alloc (.cells (ncs N) 25)).cell? ⟨w.heap.size, 4, none⟩ = some (.slice N.kids.a N.kids.n N.kids.c) ∧
    Hid (Below w.heap.size w (w.alloc (.cells (ncs N) 25))) ∧
    N.kind = k ∧ N.num = n ∧ N.text = tx ∧ N.names.n = ns.length ∧ N.kids.n = ks.length := by
  have bN := Blk.new w (ncs N) 25
  unfold Rd at hr
  obtain ⟨h1, h2, h3, h4, xs, h5, h6⟩ := hr
  exact ⟨bN, (bN.cell 0).trans (ncs_0 N), (bN.cell 1).trans (ncs_1 N), (bN.cell 2).trans (ncs_2 N), (bN.cell 3).trans (ncs_3 N), (bN.cell 4).trans (ncs_4 N), Lib.hid bel1, h1, h2, h3, h4.1, by rw [h5.1, Rds.len h6]⟩
def StmC (t : Tree) : Prop := ∀ {N : Nd} {w : World}, Rd w t N → Str t → Calls Tryz.prog 52 #[.agg (ncs N)] w (PostR w (.bool (okT 83 t)))
def StmsC (ts : List Tree) : Prop := ∀ {s : Sl} {xs : List Nd} {w : World}, Lst w s xs → Rds w ts xs → Strs ts → Calls Tryz.prog 30 #[.slice s.a s.n s.c] w (PostR w (.bool (allT 83 ts)))
def funB (t : Tree) : Bool := t.names.all varB && (t.kind == 14 && (t.num == 0 && allT 83 t.kids))
def FunC (t : Tree) : Prop := ∀ {N : Nd} {w : World}, Rd w t N → Str t → Calls Tryz.prog 70 #[.agg (ncs N)] w (PostR w (.bool (funB t)))
def PairC (t : Tree) : Prop := ∀ {N : Nd} {w : World}, Rd w t N → Str t → Calls Tryz.prog 99 #[.agg (ncs N)] w (PostR w (.bool (okT 68 t)))
def BlkC (t : Tree) : Prop := ∀ {N : Nd} {w : World}, Rd w t N → Str t → Calls Tryz.prog 74 #[.agg (ncs N)] w (PostR w (.bool (okT 66 t)))
def OpenC (t : Tree) : Prop := ∀ {N : Nd} {w : World}, Rd w t N → okT 83 t = true → Calls Tryz.prog 72 #[.agg (ncs N)] w (PostR w (.bool (openT t)))
theorem kids_ex {k n : Int} {tx : ByteArray} {ns : List ByteArray} {ks : List Tree} {N : Nd} {w : World} (hr : Rd w (.mk k n tx ns ks) N) (IH : ExpsC ks) (hs : Strs ks) (W : World) (hb : Below w.heap.size w W) :
    Calls Tryz.prog 69 #[.slice N.kids.a N.kids.n N.kids.c] W (PostR W (.bool (allT 65 ks))) := by
  unfold Rd at hr
  obtain ⟨h1, h2, h3, h4, xs, h5, h6⟩ := hr
  exact IH (h5.kept (kept_below hb)) (h6.below hb) hs
theorem kids_st {k n : Int} {tx : ByteArray} {ns : List ByteArray} {ks : List Tree} {N : Nd} {w : World} (hr : Rd w (.mk k n tx ns ks) N) (IH : StmsC ks) (hs : Strs ks) (W : World) (hb : Below w.heap.size w W) :
    Calls Tryz.prog 30 #[.slice N.kids.a N.kids.n N.kids.c] W (PostR W (.bool (allT 83 ks))) := by
  unfold Rd at hr
  obtain ⟨h1, h2, h3, h4, xs, h5, h6⟩ := hr
  exact IH (h5.kept (kept_below hb)) (h6.below hb) hs
structure KidAt (w : World) (b o : Nat) (x : Nd) : Prop where
  lt : b < w.heap.size
  at_ : NdAt w b o x
theorem KidAt.ld {w W : World} {b o : Nat} {x : Nd} (h : KidAt w b o x) (hb : Below w.heap.size w W) : (Ld 25 (.pointer (some ⟨b, o, none⟩))).run Tryz.prog W = .ok (.agg (ncs x)) W := (h.at_.kept (kept_below hb) h.lt).ld
theorem KidAt.kind {w W : World} {b o : Nat} {x : Nd} (h : KidAt w b o x) (hb : Below w.heap.size w W) : W.cell? ⟨b, o, none⟩ = some (.int .i64 x.kind) := (h.at_.kept (kept_below hb) h.lt) 0 _ rfl
theorem KidAt.num {w W : World} {b o : Nat} {x : Nd} (h : KidAt w b o x) (hb : Below w.heap.size w W) : W.cell? ⟨b, o + 1, none⟩ = some (.int .i64 x.num) := (h.at_.kept (kept_below hb) h.lt) 1 _ rfl
theorem KidAt.text {w W : World} {b o : Nat} {x : Nd} (h : KidAt w b o x) (hb : Below w.heap.size w W) : W.cell? ⟨b, o + 2, none⟩ = some (.string x.text) := (h.at_.kept (kept_below hb) h.lt) 2 _ rfl
theorem KidAt.names {w W : World} {b o : Nat} {x : Nd} (h : KidAt w b o x) (hb : Below w.heap.size w W) : W.cell? ⟨b, o + 3, none⟩ = some (.slice x.names.a x.names.n x.names.c) := (h.at_.kept (kept_below hb) h.lt) 3 _ rfl
theorem KidAt.kids {w W : World} {b o : Nat} {x : Nd} (h : KidAt w b o x) (hb : Below w.heap.size w W) : W.cell? ⟨b, o + 4, none⟩ = some (.slice x.kids.a x.kids.n x.kids.c) := (h.at_.kept (kept_below hb) h.lt) 4 _ rfl
theorem kids_1 {k n : Int} {tx : ByteArray} {ns : List ByteArray} {a : Tree} {N : Nd} {w : World} (hr : Rd w (.mk k n tx ns [a]) N) :
    ∃ b o c x, N.kids = ⟨some ⟨b, o, none⟩, 1, c⟩ ∧ 1 ≤ c ∧ c ≤ maxLen ∧ KidAt w b o x ∧ Rd w a x := by
  unfold Rd at hr
  obtain ⟨h1, h2, h3, h4, xs, h5, h6⟩ := hr
  have hl := Rds.len h6
  obtain ⟨b, o, e1, e2, e3, e4, e5⟩ := h5.where (by rw [hl]; simp)
  rw [hl] at e1 e3
  obtain ⟨x, q1, q2⟩ := h6.at (i := 0) rfl
  exact ⟨b, o, _, x, e1, e3, e4, ⟨e2, by have := e5 0 x q1; simpa using this⟩, q2⟩
theorem kids_2 {k n : Int} {tx : ByteArray} {ns : List ByteArray} {a a2 : Tree} {N : Nd} {w : World} (hr : Rd w (.mk k n tx ns [a, a2]) N) :
    ∃ b o c x x2, N.kids = ⟨some ⟨b, o, none⟩, 2, c⟩ ∧ 2 ≤ c ∧ c ≤ maxLen ∧ KidAt w b o x ∧ Rd w a x ∧ KidAt w b (o + 5) x2 ∧ Rd w a2 x2 := by
  unfold Rd at hr
  obtain ⟨h1, h2, h3, h4, xs, h5, h6⟩ := hr
  have hl := Rds.len h6
  obtain ⟨b, o, e1, e2, e3, e4, e5⟩ := h5.where (by rw [hl]; simp)
  rw [hl] at e1 e3
  obtain ⟨x, q1, q2⟩ := h6.at (i := 0) rfl
  obtain ⟨x2, q3, q4⟩ := h6.at (i := 1) rfl
  exact ⟨b, o, _, x, x2, e1, e3, e4, ⟨e2, by have := e5 0 x q1; simpa using this⟩, q2, ⟨e2, by have := e5 1 x2 q3; simpa using this⟩, q4⟩
theorem kids_3 {k n : Int} {tx : ByteArray} {ns : List ByteArray} {a a2 a3 : Tree} {N : Nd} {w : World} (hr : Rd w (.mk k n tx ns [a, a2, a3]) N) :
    ∃ b o c x x2 x3, N.kids = ⟨some ⟨b, o, none⟩, 3, c⟩ ∧ 3 ≤ c ∧ c ≤ maxLen ∧ KidAt w b o x ∧ Rd w a x ∧ KidAt w b (o + 5) x2 ∧ Rd w a2 x2 ∧ KidAt w b (o + 10) x3 ∧ Rd w a3 x3 := by
  unfold Rd at hr
  obtain ⟨h1, h2, h3, h4, xs, h5, h6⟩ := hr
  have hl := Rds.len h6
  obtain ⟨b, o, e1, e2, e3, e4, e5⟩ := h5.where (by rw [hl]; simp)
  rw [hl] at e1 e3
  obtain ⟨x, q1, q2⟩ := h6.at (i := 0) rfl
  obtain ⟨x2, q3, q4⟩ := h6.at (i := 1) rfl
  obtain ⟨x3, q5, q6⟩ := h6.at (i := 2) rfl
  exact ⟨b, o, _, x, x2, x3, e1, e3, e4, ⟨e2, by have := e5 0 x q1; simpa using this⟩, q2, ⟨e2, by have := e5 1 x2 q3; simpa using this⟩, q4, ⟨e2, by have := e5 2 x3 q5; simpa using this⟩, q6⟩
theorem rd_text {w : World} {t : Tree} {x : Nd} (h : Rd w t x) : x.text = t.text := by
  cases t
  unfold Rd at h
  exact h.2.2.1
theorem rd_kind {w : World} {t : Tree} {x : Nd} (h : Rd w t x) : x.kind = t.kind := by
  cases t
  unfold Rd at h
  exact h.1
theorem rd_num {w : World} {t : Tree} {x : Nd} (h : Rd w t x) : x.num = t.num := by
  cases t
  unfold Rd at h
  exact h.2.1
theorem rd_names {w : World} {t : Tree} {x : Nd} (h : Rd w t x) : x.names.n = t.names.length := by
  cases t
  unfold Rd at h
  exact h.2.2.2.1.1
theorem str_text {t : Tree} (h : Str t) : t.text.size ≤ 1048576 := by
  cases t
  unfold Str at h
  exact h.1
theorem kids_tail {k n : Int} {tx : ByteArray} {ns : List ByteArray} {a : Tree} {ks : List Tree} {N : Nd} {w : World} (hr : Rd w (.mk k n tx ns (a :: ks)) N) (IH : StmsC ks) (hs : Strs (a :: ks)) (W : World) (hb : Below w.heap.size w W) {b o m c : Nat} (hk : N.kids = ⟨some ⟨b, o, none⟩, m, c⟩) :
    Calls Tryz.prog 30 #[.slice (some ⟨b, o + 5, none⟩) (m - 1) (c - 1)] W (PostR W (.bool (allT 83 ks))) := by
  unfold Rd at hr
  obtain ⟨h1, h2, h3, h4, xs, h5, h6⟩ := hr
  rw [hk] at h5
  have hl := Rds.len h6
  have h7 := (h5.tail (b := b) (o := o) rfl (n := 1) (by rw [hl]; simp)).kept (kept_below hb)
  have h8 := (h6.drop 1).below hb
  have hn : m = xs.length := h5.1
  have := IH h7 h8 (hs.drop 1)
  rw [hn]
  exact this
end Go.Proofs.YtinoaajohkafmaaGreat.Pr

/-
  Lists of names of a call's own; sets of names; the program's hasTwice, the reference's has.
-/
namespace Go.Proofs.YtinoaajohkafmaaGreat.Ey
open Go Go.RowKit Go.Maps Go.Proofs.YtinoaajohkafmaaGreat.Pa Go.Proofs.YtinoaajohkafmaaGreat.Pr
open Go.Proofs.YtinoaajohkafmaaGreat.Lx
set_option linter.unusedVariables false
set_option linter.unusedSimpArgs false
def Nm (B : Nat) (w : World) (v : Value) (l : List ByteArray) : Prop := w.ownsRow B 9 1 v l.length (l.map Value.string)
theorem Nm.shape {B : Nat} {w : World} {v : Value} {l : List ByteArray} (h : Nm B w v l) : ∃ a c, v = .slice a l.length c := by
  rcases h.2 with ⟨rfl, h1⟩ | ⟨g, cap, cur, rfl, _⟩
  · exact ⟨none, 0, by rw [h1]⟩
  · exact ⟨_, _, rfl⟩
theorem Nm.txs {B : Nat} {w : World} {a : Option Addr} {c : Nat} {l : List ByteArray} (h : Nm B w (.slice a l.length c) l) : Txs w ⟨a, l.length, c⟩ l := by
  have h' := h
  unfold Nm at h'
  rcases h.2 with ⟨h0, h1⟩ | ⟨g, cap, cur, h1, h2, h3, h4, h5, -⟩
  · simp only [Value.slice.injEq] at h0
    obtain ⟨rfl, -, rfl⟩ := h0
    exact ⟨rfl, by omega, Nat.zero_le _, fun j x hx => by have := (List.getElem?_eq_some_iff.1 hx).1; omega⟩
  · simp only [Value.slice.injEq] at h1
    obtain ⟨rfl, -, rfl⟩ := h1
    refine ⟨rfl, h4, h5, fun j x hx => ⟨g, 0, rfl, (Array.getElem?_eq_some_iff.1 h3).1, ?_⟩⟩
    have hj := (List.getElem?_eq_some_iff.1 hx).1
    rw [Nat.zero_add, h'.cellAt j (by omega), List.getElem?_map, hx]
    rfl
theorem infoN : (Tryz.prog.info? 9).map (fun i => (i.zero, i.size, i.bytes)) = some (some (.string ⟨#[]⟩), 1, 16) := by kernel_rfl
theorem own_succ {W : World} {base : Nat} {e : TypeId} {size : Nat} {v : Value} {k : Nat} {xs : List Value} (h : W.ownsRow base e size v (k + 1) xs) : ∃ g cap, v = .slice (some ⟨g, 0, none⟩) (k + 1) cap := by
  rcases h.2 with ⟨_, h0⟩ | ⟨g, cap, cur, rfl, _⟩
  · omega
  · exact ⟨g, cap, rfl⟩
theorem nm_app {B : Nat} {w : World} {v : Value} {l : List ByteArray} (h : Nm B w v l) (hB : B ≤ w.heap.size) (hl : l.length ≤ 1000000) (s : ByteArray) :
    ∃ g c w', (Builtin.append_ #[22, 22] 22 #[v, .slice (some ⟨w.heap.size, 0, none⟩) 1 1]).run Tryz.prog (w.alloc (.cells #[.string s] 9)) = .ok (.slice (some ⟨g, 0, none⟩) (l.length + 1) c) w' ∧ Nm B w' (.slice (some ⟨g, 0, none⟩) (l.length + 1) c) (l ++ [s]) ∧ Below B w w' := by
  obtain ⟨i, hi, hz0, hz1, hz2⟩ := info_parts infoN
  have h' : (w.alloc (.cells #[.string s] 9)).ownsRow B 9 1 v l.length (l.map Value.string) := World.ownsRow.alloc h _
  obtain ⟨v', w', hrun, hown, hg, _, hat⟩ := run_append_own_at (P := Tryz.prog) (w.alloc (.cells #[.string s] 9)) B 22 22 9 i (.string ⟨#[]⟩) 1 16 Tryz.underlying22 hi hz0 hz1 hz2 rfl (by decide) v l.length _ h' ⟨w.heap.size, 0, none⟩ 1 1 [.string s] rfl (cell_one_new w _ _) (by simp [Value.oneCell']) (by unfold maxLen; omega) (by omega) (by simp; omega)
  obtain ⟨g, c, rfl⟩ := own_succ hown
  refine ⟨g, c, w', hrun, ?_, (((Below.refl B w).alloc hB _).grown hg (by simp; omega) (fun k hk => (World.ownsRow.lt h k hk).1))⟩
  unfold Nm
  simpa using hown
theorem run_app_none {P : Program} {w : World} (base : Nat) {t ty e : TypeId} {i : TypeInfo} {size : Nat} (ht : P.underlying t = some (.slice e)) (hi : P.info? e = some i) (v : Value) (n : Nat) (xs : List Value) (hown : w.ownsRow base e size v n xs) (c : Nat) :
    (Builtin.append_ #[t, t] ty #[v, .slice none 0 c]).run P w = .ok v w := by
  rcases hown.2 with ⟨rfl, rfl⟩ | ⟨g, cap, cur, rfl, _, _, hnc, _⟩
  · simp [Builtin.append_, run_underlying ht, sizeOf, typeInfo, hi, Builtin.lenOf, Builtin.firstCells]
  · simp [Builtin.append_, run_underlying ht, sizeOf, typeInfo, hi, Builtin.lenOf, Builtin.firstCells, hnc, storeCells]
theorem nm_src {B : Nat} {w : World} {v : Value} {l : List ByteArray} (h : Nm B w v l) (hB : B ≤ w.heap.size) (hl : l.length ≤ 1000000) {s : Sl} {ns : List ByteArray} (hs : Txs w s ns) (hn : ns.length ≤ 1000000) :
    ∃ v' w', (Builtin.append_ #[22, 22] 22 #[v, .slice s.a s.n s.c]).run Tryz.prog w = .ok v' w' ∧ Nm B w' v' (l ++ ns) ∧ Below B w w' := by
  obtain ⟨i, hi, hz0, hz1, hz2⟩ := info_parts infoN
  obtain ⟨a, n, c⟩ := s
  obtain ⟨h1, h2, h3, h4⟩ := hs
  simp only at h1 h2 h3 h4
  subst h1
  cases a with
  | none =>
    have hns : ns = [] := by
      cases ns with
      | nil => rfl
      | cons x r => obtain ⟨b, o, e, _⟩ := h4 0 x rfl; cases e
    subst hns
    exact ⟨v, w, run_app_none (w := w) B Tryz.underlying22 hi v l.length _ h c, by rw [List.append_nil]; exact h, Below.refl _ _⟩
  | some ad =>
    obtain ⟨v', w', hrun, hown, hg, _, hat⟩ := run_append_own_at (P := Tryz.prog) w B 22 22 9 i (.string ⟨#[]⟩) 1 16 Tryz.underlying22 hi hz0 hz1 hz2 rfl (by decide) v l.length _ h ad ns.length c (ns.map Value.string) (by simp) (fun j u hu => by
      rw [List.getElem?_map] at hu
      obtain ⟨x, hx, rfl⟩ := Option.map_eq_some_iff.1 hu
      obtain ⟨b, o, e, hb, hc⟩ := h4 j x hx
      cases e
      have e2 : (⟨b, o, none⟩ : Addr).add j = ⟨b, o + j, none⟩ := by unfold Addr.add; split <;> simp_all
      rw [e2]
      exact hc) (by simp [Value.oneCell']) (by unfold maxLen; omega) (by omega) hB
    refine ⟨v', w', hrun, ?_, (Below.refl B w).grown hg hB (fun k hk => (World.ownsRow.lt h k hk).1)⟩
    unfold Nm
    simpa using hown
def Fine (s : ByteArray) : Prop := s.size ≤ 1048576
def klit (s : ByteArray) : Lit := .string s.data.toList
theorem skeyed : Keyed Tryz.prog 9 := string_keyed Tryz.underlying9
theorem key_of {s : ByteArray} (h : Fine s) : keyOf Tryz.prog 9 (.string s) = some (klit s) := by
  have h : s.size ≤ maxLen := by unfold Fine at h; unfold maxLen; omega
  simp [keyOf, klit, mapKey, Tryz.underlying9, h]
theorem klit_inj {s t : ByteArray} (h : klit s = klit t) : s = t := by
  unfold klit at h
  cases s; cases t
  simp at h
  simp [h]
theorem key_lit {k : ByteArray} (hk : Fine k) : WideAt.IsKeyLit (klit k) := skeyed.key (key_of hk)
def SetIs (w : World) (m n : Nat) (l : List ByteArray) : Prop := ∃ D, w.ownsMap (H := Unit) Tryz.prog 9 unitElem m n D ∧ ∀ k, Fine k → Maps.has D (klit k) = hasB l k
theorem SetIs.made (w : World) : SetIs (w.alloc (.map #[] 0)) w.heap.size 0 [] := ⟨_, World.ownsMap_made _ _ _ _, fun k _ => rfl⟩
theorem SetIs.old {w : World} {m n : Nat} {l : List ByteArray} (h : SetIs w m n l) (o : Obj) : SetIs (w.alloc o) m n l := by
  obtain ⟨D, h1, h2⟩ := h
  exact ⟨D, h1.alloc o, h2⟩
theorem zeroU (w : World) : (zeroValue 85).run Tryz.prog w = .ok (.agg #[]) w := by kernel_rfl
theorem SetIs.look {w : World} {m n : Nat} {l : List ByteArray} (h : SetIs w m n l) {s : ByteArray} (hs : Fine s) : (Instr.lookup 84 (.map (some m)) (.string s) true).run Tryz.prog w = .ok (.tuple #[.agg #[], .bool (hasB l s)]) w := by
  obtain ⟨D, hd, hf⟩ := h
  obtain ⟨v, ps, hrun, hv⟩ := hd.look_ok (t := 84) (e := 85) skeyed Tryz.underlying84 (zeroU w) unitElem_mk (key_of hs)
  rw [(unitElem_inv hv).1, hf s hs] at hrun
  exact hrun
theorem SetIs.store {w : World} {m n : Nat} {l : List ByteArray} (h : SetIs w m n l) (hn : n ≤ 1000000) {s : ByteArray} (hs : Fine s) : ∃ w', (Instr.mapUpdate 84 (.map (some m)) (.string s) (.agg #[])).run Tryz.prog w = .ok () w' ∧ SetIs w' m (n + 1) (l ++ [s]) ∧ w.mapTurned w' m := by
  obtain ⟨D, hd, hf⟩ := h
  obtain ⟨w', h1, h2, h3⟩ := hd.store (t := 84) (e := 85) skeyed Tryz.underlying84 (by unfold maxLen; omega) (key_of hs) unitElem_mk
  refine ⟨w', h1, ⟨_, h2, fun k hk => ?_⟩, h3⟩
  rw [hasB_snoc]
  by_cases hks : k = s
  · subst hks
    rw [has_put_same hd.isMap (key_lit hk)]
    simp
  · rw [has_put_other (fun e => hks (klit_inj e)), hf k hk]
    have : ¬ s = k := fun e => hks e.symm
    simp [this]
end Go.Proofs.YtinoaajohkafmaaGreat.Ey
