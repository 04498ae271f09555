/-
  Texts of this seat in build order: EyDecl, EyRef, EyMis, ShelfP, PgLay.
-/
import Derived.Test.YtinoaajohkafmaaGreatMw06
import Derived.Test.YtinoaajohkafmaaGreatMw08
import Derived.Deep.RegionWith
import Derived.Laws.ResultCell
import Derived.Test.YtinoaajohkafmaaGreatProg
import Derived.Shelf.Strings.Prefix
import Derived.Shelf.Strings.Repeat
import Derived.Laws.IdiomStrings
import Derived.Laws.Concat
/-
  The program's declared and declaresTwice.
-/
namespace Go.Proofs.YtinoaajohkafmaaGreat.Ey
open Go Go.RowKit Go.Maps Go.Proofs.YtinoaajohkafmaaGreat.Pa Go.Proofs.YtinoaajohkafmaaGreat.Pr
open Go.Proofs.YtinoaajohkafmaaGreat.Lx
set_option linter.unusedVariables false
set_option linter.unusedSimpArgs false
attribute [local irreducible] kcs ncs ncells
theorem wpList_app_run {P : Program} {ops : Array Oper} {rest : List Oper} {o : Oper} {a : Act} {w w' : World} {Q : Exit → Act → World → Prop} (hgd : o.guard = none) (s x : Operand) (t : TypeId) (ho : o.op = Op.call { callee := Callee.builtin Builtin.append, args := #[s, x], argTypes := #[t, t] }) (ht : o.type = t)
    (v1 v2 v' : Value) (hs : a.eval s = v1) (hx : a.eval x = v2) (hrun : (Builtin.append_ #[t, t] t #[v1, v2]).run P w = .ok v' w') (h : wpList P ops Q rest (a.put o.dst v') w') : wpList P ops Q (o :: rest) a w := by
  refine wpList_plain hgd fun K hK => ?_
  subst ht
  unfold Oper.wp
  simp [execOp, ho, resolve, invoke, builtin, hs, hx, hrun, Result.andThen]
  exact hK _ _ h
def Fun1 (ks : List Tree) : Prop := ∀ t ∈ ks, t.kind = 32 → t.kids ≠ []
theorem declN_step {ks : List Tree} {i : Nat} {t : Tree} (h : ks[i]? = some t) : declN (ks.take (i + 1)) = declN (ks.take i) ++ decl1 t := by
  obtain ⟨hl, rfl⟩ := List.getElem?_eq_some_iff.1 h
  have e := List.take_succ_eq_append_getElem hl
  unfold declN
  rw [e, List.flatMap_append]
  simp
theorem decl1_len (t : Tree) : (decl1 t).length ≤ 1 := by
  unfold decl1
  split
  · exact Nat.le_refl _
  · split
    · exact Nat.le_refl _
    · exact Nat.zero_le _
theorem declN_len (ks : List Tree) : (declN ks).length ≤ ks.length := by
  induction ks with
  | nil => exact Nat.le_refl _
  | cons t r ih =>
    have := decl1_len t
    simp only [declN, List.flatMap_cons, List.length_append, List.length_cons] at ih ⊢
    omega
theorem decl_fine {ks : List Tree} (h : Strs ks) : ∀ x ∈ declN ks, Fine x := by
  intro x hx
  obtain ⟨t, ht, hx⟩ := List.mem_flatMap.1 hx
  obtain ⟨i, hi, e⟩ := List.getElem_of_mem ht
  have hs : Str t := h.at (i := i) (by rw [List.getElem?_eq_getElem hi, e])
  obtain ⟨k, n, tx, ns, ks2⟩ := t
  have hs := hs.of
  unfold decl1 Tree.kind Tree.text Tree.kids at hx
  simp only at hx
  split at hx
  · simp at hx; subst hx; exact hs.1
  · split at hx
    · simp at hx
      subst hx
      cases ks2 with
      | nil => show (0 : Nat) ≤ 1048576; omega
      | cons t r =>
        have h2 := hs.2.2
        unfold Strs at h2
        obtain ⟨k', n', tx', ns', ks'⟩ := t
        exact h2.1.of.1
    · simp at hx
theorem nm_empty {B : Nat} (w : World) (h : B ≤ w.heap.size) : Nm B (w.alloc (.cells #[] 9)) (.slice (some ⟨w.heap.size, 0, none⟩) 0 0) [] :=
  ⟨rfl, .inr ⟨w.heap.size, 0, #[], rfl, h, heap_alloc_new w _, Nat.le_refl _, Nat.zero_le _, rfl, rfl⟩⟩
def DecP (w : World) (l : List ByteArray) (e : Ending) (w' : World) : Prop := ∃ a c, e = .returned (.slice a l.length c) ∧ Nm w.heap.size w' (.slice a l.length c) l ∧ Below w.heap.size w w'
structure DcI (w : World) (ns : List ByteArray) (ks : List Tree) (k : Nat) (v : Value) (wr : World) : Prop where
  own : Nm w.heap.size wr v (ns ++ declN (ks.take k))
  bel : Below w.heap.size w wr
set_option maxRecDepth 100000 in
set_option maxHeartbeats 4000000 in
theorem declared_any {w : World} {b o : Nat} {k n : Int} {tx : ByteArray} {ns : List ByteArray} {ks : List Tree} {N : Nd} (hT : TAt w b o (.mk k n tx ns ks) N) (hn : ns.length ≤ 100000) (hk : ks.length ≤ 100000) (hf : Fun1 ks) : Calls Tryz.prog 28 #[.pointer (some ⟨b, o, none⟩)] w (DecP w (ns ++ declN ks)) := by
  have c3 := hT.k.names (Below.refl _ w)
  have c4 := hT.k.kids (Below.refl _ w)
  have hlen := hT.kids
  have htx : Txs w N.names ns := by have := hT.r; unfold Rd at this; exact this.2.2.2.1
  have hb1 : Below w.heap.size w (w.alloc (.cells #[] 9)) := (Below.refl _ w).alloc (Nat.le_refl _) _
  have hnm := nm_empty (B := w.heap.size) w (Nat.le_refl _)
  obtain ⟨v2, W2, hrun2, hnm2, hb2⟩ := nm_src hnm hb1.size (Nat.zero_le _) (htx.kept (kept_below hb1)) (by omega)
  have hst : DcI w ns ks 0 v2 W2 := ⟨by simpa [declN] using hnm2, hb1.trans hb2⟩
  have q3 : (w.alloc (.cells #[] 9)).cell? ⟨b, o + 3, none⟩ = some (.slice N.names.a N.names.n N.names.c) := hT.k.names hb1
  have q4 : W2.cell? ⟨b, o + 4, none⟩ = some (.slice N.kids.a N.kids.n N.kids.c) := hT.k.kids (hb1.trans hb2)
  obtain ⟨m, hm⟩ : ∃ m, ks.length = m := ⟨_, rfl⟩
  rw [hlen, hm] at q4
  have HT := Lib.hid hT
  have HM := Lib.hid hm
  have HST := Lib.hid hst
  have HF := Lib.hid hf
  have HK := Lib.hid hk
  have HN := Lib.hid hn
  clear hT c3 c4 htx hb1 hnm hnm2 hb2 hst hf hlen hm hk hn
  go_enter Tryz.func28, Tryz.ntmps28
  go_wp2_with (at_builtin; refine wpList_app_run rfl (.tmp 6) (.tmp 10) 22 rfl rfl _ _ _ rfl rfl hrun2 ?_)
  go_loopw [3, 17] (fun v i wr => ∃ j : Nat, j ≤ m ∧ i = .int .i64 j ∧ DcI w ns ks j v wr) (fun _ i _ => m - (intOf i).toNat)
  case atStart => exact ⟨0, Nat.zero_le _, rfl, HST.out⟩
  case round =>
    obtain ⟨j, hj, rfl, hI⟩ := hrel
    by_cases hlt : j < m
    · obtain ⟨t, ht⟩ : ∃ t, ks[j]? = some t := ⟨ks[j]'(by have := HM.out; omega), List.getElem?_eq_getElem _⟩
      obtain ⟨b2, o2, x, r1, r2, r3, r4, r5⟩ := HT.out.kid ht
      have r5' := r5.below hI.bel
      have z4 : _ := HT.out.k.kids hI.bel
      rw [r1, HT.out.kids, HM.out] at z4
      have z0 : _ := r5.k.kind hI.bel
      rw [rd_kind r5.r] at z0
      have t1 : (j : Int) < m := by omega
      have t2 : decide ((m : Int) ≤ j) = false := by simp; omega
      have hw : wrap64 ((j : Int) + 1) = j + 1 := by unfold wrap64; have := HM.out; have := HK.out; omega
      have HLT := Lib.hid hlt
      have hds := declN_step ht
      have hll : (ns ++ declN (ks.take j)).length ≤ 1000000 := by
        have := declN_len (ks.take j)
        have := HN.out; have := HK.out
        rw [List.length_append]
        have h3 : (ks.take j).length ≤ ks.length := by simp; omega
        omega
      have s0 := hI.bel.size
      by_cases h30 : t.kind = 30 ∨ t.kind = 31
      · have hd1 : decl1 t = [t.text] := by unfold decl1; rw [if_pos h30]
        have z2 := r5.k.text hI.bel
        rw [rd_text r5.r] at z2
        obtain ⟨g, c, W5, hrun, hn5, hb5⟩ := nm_app hI.own s0 hll t.text
        have HE : Hid (DcI w ns ks (j + 1) (.slice (some ⟨g, 0, none⟩) ((ns ++ declN (ks.take j)).length + 1) c) W5) := Lib.hid ⟨by rw [hds, hd1, ← List.append_assoc]; exact hn5, hI.bel.trans hb5⟩
        obtain ⟨L, hL⟩ : ∃ L, (ns ++ declN (ks.take j)).length = L := ⟨_, rfl⟩
        rw [hL] at hrun HE
        obtain ⟨K, hK⟩ : ∃ K, t.kind = K := ⟨_, rfl⟩
        rw [hK] at z0 h30
        clear hI r5 r5' r1 r2 r3 r4 hds hll s0 hd1 hn5 hb5 ht hj hL hK
        rcases h30 with rfl | rfl
        · go_wp2_with (at_builtin; refine wpList_app_run rfl (.tmp 33) (.tmp 38) 22 rfl rfl _ _ _ rfl rfl hrun ?_)
          go_roundw
          · exact ⟨j + 1, HLT.out, by congr 1, HE.out⟩
          · exact meas_w hw HLT.out
        · go_wp2_with (at_builtin; refine wpList_app_run rfl (.tmp 33) (.tmp 38) 22 rfl rfl _ _ _ rfl rfl hrun ?_)
          go_roundw
          · exact ⟨j + 1, HLT.out, by congr 1, HE.out⟩
          · exact meas_w hw HLT.out
      · by_cases h32 : t.kind = 32
        · have hd1 : decl1 t = [headT t.kids] := by unfold decl1; rw [if_neg h30, if_pos h32]
          obtain ⟨k', n', tx', ns', ks'⟩ := t
          have hne := HF.out _ (List.mem_of_getElem? ht) h32
          obtain ⟨u, us, rfl⟩ : ∃ u us, ks' = u :: us := by
            cases ks' with
            | nil => exact absurd rfl hne
            | cons u us => exact ⟨u, us, rfl⟩
          obtain ⟨b3, o3, y, p1, p2, p3, p4, p5⟩ := r5.kid (i := 0) (t := u) rfl
          have y4 : _ := r5.k.kids hI.bel
          rw [p1, p2] at y4
          have y2 := p5.k.text hI.bel
          rw [rd_text p5.r, Nat.zero_mul, Nat.add_zero] at y2
          have hht : headT (Tree.mk k' n' tx' ns' (u :: us)).kids = u.text := rfl
          rw [hht] at hd1
          obtain ⟨g, c, W5, hrun, hn5, hb5⟩ := nm_app hI.own s0 hll u.text
          have HE : Hid (DcI w ns ks (j + 1) (.slice (some ⟨g, 0, none⟩) ((ns ++ declN (ks.take j)).length + 1) c) W5) := Lib.hid ⟨by rw [hds, hd1, ← List.append_assoc]; exact hn5, hI.bel.trans hb5⟩
          obtain ⟨L, hL⟩ : ∃ L, (ns ++ declN (ks.take j)).length = L := ⟨_, rfl⟩
          rw [hL] at hrun HE
          obtain ⟨M2, hM2⟩ : ∃ M2 : Nat, (u :: us).length = M2 + 1 := ⟨us.length, rfl⟩
          rw [hM2] at y4
          rw [h32] at z0
          have e0 : decide ((M2 : Int) + 1 ≤ 0) = false := by simp; try omega
          clear hI r5 r5' r1 r2 r3 r4 hds hll s0 hd1 hn5 hb5 ht hj hL h30 h32 p1 p2 p3 p4 p5 hht hne hM2
          go_wp2_with (at_builtin; refine wpList_app_run rfl (.tmp 42) (.tmp 50) 22 rfl rfl _ _ _ rfl rfl hrun ?_)
          go_roundw
          · exact ⟨j + 1, HLT.out, by congr 1, HE.out⟩
          · exact meas_w hw HLT.out
        · have hd1 : decl1 t = [] := by unfold decl1; rw [if_neg h30, if_neg h32]
          have hI2 : DcI w ns ks (j + 1) _ wr := ⟨by rw [hds, hd1, List.append_nil]; exact hI.own, hI.bel⟩
          have HE := Lib.hid hI2
          obtain ⟨K, hK⟩ : ∃ K, t.kind = K := ⟨_, rfl⟩
          rw [hK] at z0 h30 h32
          have f0 : (K == 30) = false := by simp; omega
          have f1 : (K == 31) = false := by simp; omega
          have f2 : (K == 32) = false := by simp; omega
          clear hI hI2 r5 r5' r1 r2 r3 r4 hds hll s0 hd1 ht hj hK h30 h32
          go_wp2
          go_roundw
          · exact ⟨j + 1, HLT.out, by congr 1, HE.out⟩
          · exact meas_w hw HLT.out
    · obtain rfl : j = m := by omega
      have e : ks.take j = ks := List.take_of_length_le (by have := HM.out; omega)
      have hown := hI.own
      rw [e] at hown
      obtain ⟨a, c, rfl⟩ := hown.shape
      have t2 : decide ((j : Int) < j) = false := by simp
      have HE : Hid (DecP w (ns ++ declN ks) (.returned (.slice a (ns ++ declN ks).length c)) wr) := Lib.hid ⟨a, c, rfl, hown, hI.bel⟩
      clear hj hlt e hI hown
      go_wp2
      go_ret
      exact HE.out
set_option maxRecDepth 100000 in
set_option maxHeartbeats 4000000 in
theorem dtwice_any {w : World} {b o : Nat} {k n : Int} {tx : ByteArray} {ns : List ByteArray} {ks : List Tree} {N : Nd} (hT : TAt w b o (.mk k n tx ns ks) N) (hs : Str (.mk k n tx ns ks)) (hn : ns.length ≤ 100000) (hk : ks.length ≤ 100000) (hf : Fun1 ks) : Calls Tryz.prog 15 #[.pointer (some ⟨b, o, none⟩)] w (PostR w (.bool (twiceB k ns ks))) := by
  have c0 := hT.k.kind (Below.refl _ w)
  rw [rd_kind hT.r] at c0
  replace c0 : w.cell? ⟨b, o, none⟩ = some (.int .i64 k) := c0
  have hd := declared_any hT hn hk hf
  have hll : (ns ++ declN ks).length ≤ 1000000 := by have := declN_len ks; rw [List.length_append]; omega
  have hfi : ∀ x ∈ ns ++ declN ks, Fine x := fun x hx => by
    rcases List.mem_append.1 hx with h | h
    · exact hs.of.2.1 x h
    · exact decl_fine hs.of.2.2 x h
  have ht := fun (a : Option Addr) (c : Nat) (W : World) (h : Nm w.heap.size W (.slice a (ns ++ declN ks).length c) (ns ++ declN ks)) => twice_any h hll hfi
  obtain ⟨L, hL⟩ : ∃ L, ns ++ declN ks = L := ⟨_, rfl⟩
  have e : twiceB k ns ks = (scopeB k && dupF [] L) := by rw [← hL]; rfl
  rw [e]
  rw [hL] at hd ht
  clear hT hs hn hk hf hll hfi hL e
  by_cases h : k = 14 ∨ k = 40 ∨ k = 44
  · have e : scopeB k = true := decide_eq_true h
    rw [e, Bool.true_and]
    clear e
    rcases h with rfl | rfl | rfl
    all_goals
      go_enter Tryz.func15, Tryz.ntmps15
      go_wp2_with (go_at_call 28; (with_reducible refine hd.mono ?_); rintro e w1 ⟨a, c, rfl, hn1, hb1⟩; refine Hid.out ?_)
      refine Lib.hid ?_
      have h2 := ht a c w1 hn1
      have HB := Lib.hid hb1
      clear hn1 hb1 ht hd
      go_wp2_with (go_at_call 27; (with_reducible refine h2.mono ?_); rintro e w2 ⟨rfl, hb2⟩)
      go_ret
      exact ⟨rfl, HB.out.trans (hb2.mono HB.out.size)⟩
  · have e : scopeB k = false := decide_eq_false h
    rw [e, Bool.false_and]
    have f0 : (k == 14) = false := by simp; omega
    have f1 : (k == 40) = false := by simp; omega
    have f2 : (k == 44) = false := by simp; omega
    clear hd ht h e
    go_enter Tryz.func15, Tryz.ntmps15
    go_wp2
    go_ret
    exact ⟨rfl, Below.refl _ _⟩
end Go.Proofs.YtinoaajohkafmaaGreat.Ey

/-
  The reference's declares and twice.
-/
namespace Go.Proofs.YtinoaajohkafmaaGreat.Ey
open Go Go.RowKit Go.Maps Go.Proofs.YtinoaajohkafmaaGreat.Pa Go.Proofs.YtinoaajohkafmaaGreat.Pr
open Go.Proofs.YtinoaajohkafmaaGreat.Lx
set_option linter.unusedVariables false
set_option linter.unusedSimpArgs false
attribute [local go_sem ↓] ldK stK alK bdK bsK ldN stN alN bdN bsN
attribute [local irreducible] kcs ncs ncells
end Go.Proofs.YtinoaajohkafmaaGreat.Ey

/-
  The program's spots: isMisplaced, inside.
-/
namespace Go.Proofs.YtinoaajohkafmaaGreat.Ey
open Go Go.RowKit Go.Maps Go.Proofs.YtinoaajohkafmaaGreat.Pa Go.Proofs.YtinoaajohkafmaaGreat.Pr
open Go.Proofs.YtinoaajohkafmaaGreat.Lx
set_option linter.unusedVariables false
set_option linter.unusedSimpArgs false
attribute [local irreducible] kcs ncs ncells
def qcs (f l b : Bool) : Array Value := #[.bool f, .bool l, .bool b]
def scs2 (a o : Nat) (f l b : Bool) : Array Value := #[.pointer (some ⟨a, o, none⟩), .bool f, .bool l, .bool b]
theorem mis_any {w : World} {b o : Nat} {t : Tree} {N : Nd} (hT : TAt w b o t N) (f l h : Bool) : Calls Tryz.prog 14 #[.agg (scs2 b o f l h)] w (PostR w (.bool (misB t.kind f l h))) := by
  have hb1 : Below w.heap.size w (w.alloc (.cells (scs2 b o f l h) 44)) := (Below.refl _ w).alloc (Nat.le_refl _) _
  have c0 := hT.k.kind hb1
  rw [rd_kind hT.r] at c0
  obtain ⟨K, hK⟩ : ∃ K, t.kind = K := ⟨_, rfl⟩
  rw [hK] at c0 ⊢
  have HB := Lib.hid hb1
  unfold scs2 at c0
  clear hT hb1 hK
  unfold scs2 at HB
  by_cases h36 : K = 36
  · subst h36
    have e : misB 36 f l h = !f := rfl
    rw [e]
    unfold scs2
    go_enter Tryz.func14, Tryz.ntmps14
    go_wp2
    go_ret
    exact ⟨rfl, HB.out⟩
  have f36 : (K == 36) = false := by simpa using h36
  by_cases h41 : K = 41
  · subst h41
    have e : misB 41 f l h = !l := rfl
    rw [e]
    unfold scs2
    clear h36
    go_enter Tryz.func14, Tryz.ntmps14
    go_wp2
    go_ret
    exact ⟨rfl, HB.out⟩
  have f41 : (K == 41) = false := by simpa using h41
  by_cases h42 : K = 42
  · subst h42
    have e : misB 42 f l h = !l := rfl
    rw [e]
    unfold scs2
    clear h36 h41
    go_enter Tryz.func14, Tryz.ntmps14
    go_wp2
    go_ret
    exact ⟨rfl, HB.out⟩
  have f42 : (K == 42) = false := by simpa using h42
  by_cases h30 : K = 30 ∨ K = 31 ∨ K = 32
  · have e : misB K f l h = h := by unfold misB; rw [if_neg h36, if_neg (by omega), if_pos h30]
    rw [e]
    unfold scs2
    clear h36 h41 h42 e
    rcases h30 with rfl | rfl | rfl
    all_goals
      go_enter Tryz.func14, Tryz.ntmps14
      go_wp2
      go_ret
      exact ⟨rfl, HB.out⟩
  · have e : misB K f l h = false := by unfold misB; rw [if_neg h36, if_neg (by omega), if_neg h30]
    rw [e]
    have f30 : (K == 30) = false := by simp; omega
    have f31 : (K == 31) = false := by simp; omega
    have f32 : (K == 32) = false := by simp; omega
    unfold scs2
    clear h36 h41 h42 e h30
    go_enter Tryz.func14, Tryz.ntmps14
    go_wp2
    go_ret
    exact ⟨rfl, HB.out⟩
theorem sizeQ : (Tryz.prog.info? 42).map (·.size) = some 3 := by kernel_rfl
theorem res_Q {fn : Func} {p : Tmp} (h : fn.results = #[.cell p 42]) (tmps : Array Value) (w : World) (g : Nat) (x y z : Bool) (hp : tmps.getD p undef = .pointer (some ⟨g, 0, none⟩)) {T : TypeId} (hr : Blk w g #[.bool x, .bool y, .bool z] T) : (results fn tmps).run Tryz.prog w = .ok (.agg #[.bool x, .bool y, .bool z]) w :=
  results_cell_row h tmps w g T #[.bool x, .bool y, .bool z] (0, 0) _ hp hr Tryz.underlying42 rfl (by exact sizeQ)
theorem blk_mid (w : World) (A : Obj) (cs : Array Value) (t : TypeId) (Q : Obj) : Blk (((w.alloc A).alloc (.cells cs t)).alloc Q) (w.heap.size + 1) cs t := by
  have h := Blk.new (w.alloc A) cs t
  have k : (w.alloc A).heap.size = w.heap.size + 1 := by simp
  rw [k] at h
  exact h.old _
theorem ins_any {w : World} {b o : Nat} {t : Tree} {N : Nd} (hT : TAt w b o t N) (f l h : Bool) : Calls Tryz.prog 16 #[.agg (scs2 b o f l h)] w (PostR w (.agg (qcs (insf t.kind f) (insl t.kind l) (insb t.kind)))) := by
  have c0 := fun W (hb : Below w.heap.size w W) => hT.k.kind hb
  obtain ⟨K, hK⟩ : ∃ K, t.kind = K := ⟨_, rfl⟩
  rw [rd_kind hT.r, hK] at c0
  rw [hK]
  have hbel : ∀ A Z Q : Obj, Below w.heap.size w (((w.alloc A).alloc Z).alloc Q) := fun A Z Q => (((Below.refl _ w).alloc (Nat.le_refl _) A).alloc (by simp) Z).alloc (by simp; omega) Q
  have c1 := c0 _ (hbel (.cells #[.pointer (some ⟨b, o, none⟩), .bool f, .bool l, .bool h] 44) (.cells #[.bool false, .bool false, .bool false] 42) (.cells #[.bool f, .bool l, .bool false] 42))
  have HB := Lib.hid hbel
  clear c0 hT hK hbel
  by_cases h14 : K = 14
  · subst h14
    unfold scs2 qcs
    go_enter Tryz.func16, Tryz.ntmps16
    go_wp2
    refine bodyPost_ret (res_Q rfl _ _ (w.heap.size + 1) true false false rfl (blk_mid _ _ _ _ _)) rfl ?_
    exact ⟨rfl, HB.out _ _ _⟩
  by_cases h35 : K = 35
  · subst h35
    clear h14
    unfold scs2 qcs
    go_enter Tryz.func16, Tryz.ntmps16
    go_wp2
    refine bodyPost_ret (res_Q rfl _ _ (w.heap.size + 1) f true true rfl (blk_mid _ _ _ _ _)) rfl ?_
    exact ⟨rfl, HB.out _ _ _⟩
  by_cases h34 : K = 34
  · subst h34
    clear h14 h35
    unfold scs2 qcs
    go_enter Tryz.func16, Tryz.ntmps16
    go_wp2
    refine bodyPost_ret (res_Q rfl _ _ (w.heap.size + 1) f l true rfl (blk_mid _ _ _ _ _)) rfl ?_
    exact ⟨rfl, HB.out _ _ _⟩
  have f14 : (K == 14) = false := by simpa using h14
  have f35 : (K == 35) = false := by simpa using h35
  have f34 : (K == 34) = false := by simpa using h34
  have e1 : insf K f = f := by unfold insf; rw [if_neg h14]
  have e2 : insl K l = l := by unfold insl; rw [if_neg h14, if_neg h35]
  have e3 : insb K = false := by unfold insb; simp; omega
  rw [e1, e2, e3]
  clear h14 h35 h34 e1 e2 e3
  unfold scs2 qcs
  go_enter Tryz.func16, Tryz.ntmps16
  go_wp2
  refine bodyPost_ret (res_Q rfl _ _ (w.heap.size + 1) f l false rfl (blk_mid _ _ _ _ _)) rfl ?_
  exact ⟨rfl, HB.out _ _ _⟩
end Go.Proofs.YtinoaajohkafmaaGreat.Ey

/-
  Contracts of library functions at this program: each is one application of a theorem of the library.
-/
namespace Go.Proofs
open Go.Shelf
def Tryz.lays102_ren : Go.Shelf.Ren := ⟨fun | 102 => 110 | 209 => 118 | 207 => 126 | n => n, fun | 9 => 9 | 4 => 4 | 3 => 3 | n => n, fun | n => n⟩
theorem Tryz.lays102 : Go.Proofs.Lays.n102 Tryz.prog Tryz.lays102_ren := {
  mixed := by kernel_rfl
  f102 := Tryz.func110.trans (congrArg some (by kernel_rfl))
  f207 := Tryz.func126.trans (congrArg some (by kernel_rfl))
  f209 := Tryz.func118.trans (congrArg some (by kernel_rfl))
  t3 := Tryz.underlying3
  a3 := Tryz.isAgg3
  z3 := Tryz.sizeOf3
  v3 := Tryz.zeroValue3
  t4 := Tryz.underlying4
  a4 := Tryz.isAgg4
  z4 := Tryz.sizeOf4
  v4 := Tryz.zeroValue4
  t9 := Tryz.underlying9
  a9 := Tryz.isAgg9
  z9 := Tryz.sizeOf9
  v9 := Tryz.zeroValue9 }
open Go.RowKit Go.Lib in
theorem Tryz.strings_TrimSuffix (s p : ByteArray) (w : World) (hs : s.size ≤ 9223372036854775807) :
    Calls Tryz.prog 110 #[.string s, .string p] w fun e w' => e = .returned (.string ⟨(Lib.trimSuffix s.data.toList p.data.toList).toArray⟩) ∧ w' = w := Any.strings_TrimSuffix Tryz.lays102 s p w hs
def Tryz.lays105_ren : Go.Shelf.Ren := ⟨fun | 105 => 111 | 212 => 119 | 99 => 114 | 165 => 120 | 166 => 121 | 170 => 122 | 169 => 123 | 263 => 127 | 264 => 128 | 206 => 125 | 240 => 129 | 241 => 130 | 276 => 134 | 277 => 135 | n => n, fun | 9 => 9 | 3 => 3 | 4 => 4 | 20 => 20 | 0 => 0 | 46 => 94 | 109 => 119 | 5 => 5 | 72 => 123 | 76 => 126 | 51 => 129 | 146 => 130 | 53 => 132 | 148 => 133 | 70 => 121 | 37 => 33 | 75 => 125 | 127 => 135 | 164 => 138 | 80 => 100 | n => n, fun | n => n⟩
theorem Tryz.lays105 : Go.Proofs.Lays.n105 Tryz.prog Tryz.lays105_ren := {
  mixed := by kernel_rfl
  f99 := Tryz.func114.trans (congrArg some (by kernel_rfl))
  f105 := Tryz.func111.trans (congrArg some (by kernel_rfl))
  f165 := Tryz.func120.trans (congrArg some (by kernel_rfl))
  f166 := Tryz.func121.trans (congrArg some (by kernel_rfl))
  f169 := Tryz.func123.trans (congrArg some (by kernel_rfl))
  f170 := Tryz.func122.trans (congrArg some (by kernel_rfl))
  f206 := Tryz.func125.trans (congrArg some (by kernel_rfl))
  f212 := Tryz.func119.trans (congrArg some (by kernel_rfl))
  f240 := Tryz.func129.trans (congrArg some (by kernel_rfl))
  f241 := Tryz.func130.trans (congrArg some (by kernel_rfl))
  f263 := Tryz.func127.trans (congrArg some (by kernel_rfl))
  f264 := Tryz.func128.trans (congrArg some (by kernel_rfl))
  f276 := Tryz.func134.trans (congrArg some (by kernel_rfl))
  f277 := Tryz.func135.trans (congrArg some (by kernel_rfl))
  t0 := Tryz.underlying0
  a0 := Tryz.isAgg0
  z0 := Tryz.sizeOf0
  v0 := Tryz.zeroValue0
  t3 := Tryz.underlying3
  a3 := Tryz.isAgg3
  z3 := Tryz.sizeOf3
  v3 := Tryz.zeroValue3
  t4 := Tryz.underlying4
  a4 := Tryz.isAgg4
  z4 := Tryz.sizeOf4
  v4 := Tryz.zeroValue4
  t5 := Tryz.underlying5
  a5 := Tryz.isAgg5
  z5 := Tryz.sizeOf5
  v5 := Tryz.zeroValue5
  t9 := Tryz.underlying9
  a9 := Tryz.isAgg9
  z9 := Tryz.sizeOf9
  v9 := Tryz.zeroValue9
  t20 := Tryz.underlying20
  a20 := Tryz.isAgg20
  z20 := Tryz.sizeOf20
  v20 := Tryz.zeroValue20
  t37 := Tryz.underlying33
  a37 := Tryz.isAgg33
  z37 := Tryz.sizeOf33
  v37 := Tryz.zeroValue33
  t46 := Tryz.underlying94
  a46 := Tryz.isAgg94
  z46 := Tryz.sizeOf94
  v46 := Tryz.zeroValue94
  t51 := Tryz.underlying129
  a51 := Tryz.isAgg129
  z51 := Tryz.sizeOf129
  v51 := Tryz.zeroValue129
  t53 := Tryz.underlying132
  a53 := Tryz.isAgg132
  z53 := Tryz.sizeOf132
  v53 := Tryz.zeroValue132
  t70 := Tryz.underlying121
  a70 := Tryz.isAgg121
  z70 := Tryz.sizeOf121
  v70 := Tryz.zeroValue121
  t72 := Tryz.underlying123
  a72 := Tryz.isAgg123
  z72 := Tryz.sizeOf123
  v72 := Tryz.zeroValue123
  t75 := Tryz.underlying125
  a75 := Tryz.isAgg125
  z75 := Tryz.sizeOf125
  v75 := Tryz.zeroValue125
  t76 := Tryz.underlying126
  a76 := Tryz.isAgg126
  z76 := Tryz.sizeOf126
  v76 := Tryz.zeroValue126
  t109 := Tryz.underlying119
  a109 := Tryz.isAgg119
  z109 := Tryz.sizeOf119
  v109 := Tryz.zeroValue119
  t127 := Tryz.underlying135
  a127 := Tryz.isAgg135
  z127 := Tryz.sizeOf135
  v127 := Tryz.zeroValue135
  t146 := Tryz.underlying130
  a146 := Tryz.isAgg130
  z146 := Tryz.sizeOf130
  v146 := Tryz.zeroValue130
  t148 := Tryz.underlying133
  a148 := Tryz.isAgg133
  z148 := Tryz.sizeOf133
  v148 := Tryz.zeroValue133
  t164 := Tryz.underlying138
  a164 := Tryz.isAgg138
  z164 := Tryz.sizeOf138
  v164 := Tryz.zeroValue138 }
theorem Tryz.Builder_Extra_105 : Builder.Extra Tryz.prog Tryz.lays105_ren := {
  sizeBuilder := by kernel_rfl
  liesBuilder := by kernel_rfl
  t5 := Tryz.underlying5
  a5 := Tryz.isAgg5
  z5 := Tryz.sizeOf5
  v5 := Tryz.zeroValue5
  infoByte := by kernel_rfl
  cellsByte := by kernel_rfl
  sizeByte := by kernel_rfl
  neB5 := by decide }
open Go.RowKit Go.Lib in
theorem Tryz.strings_Repeat (s : ByteArray) (c : Nat) (w : World) (hc : c ≤ 9223372036854775807) (hlen : s.size * c ≤ 140737488355328) :
    Calls Tryz.prog 111 #[.string s, .int .i64 c] w fun e w' => e = .returned (.string ⟨(Lib.repeatL s.data.toList c).toArray⟩) ∧ Below w.heap.size w w' := Any.strings_Repeat Tryz.lays105 Tryz.Builder_Extra_105 s c w hc hlen
end Go.Proofs

/-
  The printer's layouts.
-/
namespace Go.Proofs.YtinoaajohkafmaaGreat.Pr
open Go Go.RowKit Go.Proofs.YtinoaajohkafmaaGreat.Pa Go.Proofs.YtinoaajohkafmaaGreat.Uni
open Go.Proofs.YtinoaajohkafmaaGreat.Lx
set_option linter.unusedVariables false
set_option linter.unusedSimpArgs false
def AddP (a b : ByteArray) : Sem Value := Op.stringOp .add a b
theorem adP (a b : ByteArray) : Op.stringOp .add a b = AddP a b := (rfl)
theorem bs_ap (a b : By) : bs a ++ bs b = bs (a ++ b) := by
  unfold bs
  apply ByteArray.ext
  simp
theorem run_adP (a b : By) (ha : a.length ≤ 100000000) (hb : b.length ≤ 100000000) (w : World) : (AddP (bs a) (bs b)).run Tryz.prog w = .ok (.string (bs (a ++ b))) w := by
  rw [← bs_ap]
  have h1 : (bs a).size ≤ 100000000 := by rw [bs_size]; exact ha
  have h2 : (bs b).size ≤ 100000000 := by rw [bs_size]; exact hb
  unfold AddP
  exact run_string_add_sum (P := Tryz.prog) (w := w) (bs a) (bs b) (by omega)
theorem cat3 (a b c : By) (h : a.length + b.length + c.length ≤ 100000000) : ∃ S, (∀ w, (AddP (bs a) (bs b)).run Tryz.prog w = .ok (.string S) w) ∧ ∀ w, (AddP S (bs c)).run Tryz.prog w = .ok (.string (bs (a ++ b ++ c))) w :=
  ⟨bs (a ++ b), fun w => run_adP a b (by omega) (by omega) w, fun w => run_adP (a ++ b) c (by simp; omega) (by omega) w⟩
attribute [local go_sem ↓] ldK stK alK bdK bsK ldN stN alN bdN bsN ldS stS alS bdS adP
attribute [local irreducible] kcs ncs ncells scs AddP
theorem rep_eq (s : By) : ∀ n, Lib.repeatL s n = repB s n
  | 0 => rfl
  | n + 1 => by rw [Lib.repeatL, repB, rep_eq s n]
theorem rep_lenP (l : By) : ∀ n, (repB l n).length = n * l.length
  | 0 => by simp [repB]
  | n + 1 => by rw [repB, List.length_append, rep_lenP l n, Nat.succ_mul]; omega
theorem repeat_s (s : By) (c : Nat) (w : World) (hc : c ≤ 1000000) (hs : s.length ≤ 10) : Calls Tryz.prog 111 #[.string (bs s), .int .i64 (c : Int)] w (PostR w (.string (bs (repB s c)))) := by
  have hm : s.length * c ≤ 10 * c := Nat.mul_le_mul_right _ hs
  refine (Tryz.strings_Repeat (bs s) c w (by omega) (by rw [bs_size]; omega)).mono ?_
  rintro e w' ⟨rfl, hb⟩
  refine ⟨?_, hb⟩
  rw [bs_list, rep_eq]
  rfl
set_option maxRecDepth 100000 in
theorem repeated_any (s : By) (n : Int) (w : World) (hs : s.length ≤ 10) (h0 : -1 ≤ n) (hn : n ≤ 1000000) : Calls Tryz.prog 96 #[.string (bs s), .int .i64 n] w (PostR w (.string (bs (repB s n.toNat)))) := by
  obtain ⟨c, hc⟩ : ∃ c : Nat, n.toNat = c := ⟨_, rfl⟩
  have hm : max n 0 = (c : Int) := by omega
  have cr := repeat_s s c w (by omega) hs
  rw [hc]
  obtain ⟨R, hR⟩ : ∃ R, bs (repB s c) = R := ⟨_, rfl⟩
  rw [hR] at cr ⊢
  obtain ⟨B, hB⟩ : ∃ B, bs s = B := ⟨_, rfl⟩
  rw [hB] at cr ⊢
  clear hs h0 hn hR hB hc
  go_enter Tryz.func96, Tryz.ntmps96
  go_wp2_with (go_at_call 111; (with_reducible refine cr.mono ?_); intro e w2 hp; obtain ⟨rfl, hb⟩ := hp; have HB := Lib.hid hb; clear hb)
  go_ret
  exact ⟨rfl, HB.out⟩
theorem list_tail (c : UInt8) : ∀ n, repB [c, 44, 32] (n + 1) = listB c (n + 1) ++ [44, 32]
  | 0 => rfl
  | n + 1 => by
    rw [repB, list_tail c n, listB]
    simp
theorem trim_list (c : UInt8) (n : Nat) : Lib.trimSuffix (repB [c, 44, 32] n) [44, 32] = listB c n := by
  cases n with
  | zero => rfl
  | succ n =>
    rw [list_tail]
    unfold Lib.trimSuffix Lib.hasSuffix
    rw [if_pos (by simp)]
    simp
theorem list_len (c : UInt8) : ∀ n, (listB c n).length ≤ 3 * n
  | 0 => by simp [listB]
  | 1 => by simp [listB]
  | n + 2 => by
    have := list_len c (n + 1)
    rw [listB]
    simp at this ⊢
    omega
set_option maxRecDepth 100000 in
theorem list_any (c : UInt8) (n : Int) (w : World) (h0 : -1 ≤ n) (hn : n ≤ 1000000) : Calls Tryz.prog 92 #[.string (bs [c]), .int .i64 n] w (PostR w (.string (bs (listB c n.toNat)))) := by
  have z1 : ∀ w, (AddP (bs [c]) ⟨#[44, 32]⟩).run Tryz.prog w = .ok (.string (bs [c, 44, 32])) w := fun w => run_adP [c] [44, 32] (by simp) (by simp) w
  have cr := fun w => repeated_any [c, 44, 32] n w (by simp) h0 hn
  have ct := fun w => Tryz.strings_TrimSuffix (bs (repB [c, 44, 32] n.toNat)) ⟨#[44, 32]⟩ w (by rw [bs_size, rep_lenP]; simp; omega)
  have ct : ∀ w, Calls Tryz.prog 110 #[.string (bs (repB [c, 44, 32] n.toNat)), .string ⟨#[44, 32]⟩] w (PostR w (.string (bs (listB c n.toNat)))) := fun w => by
    refine (ct w).mono ?_
    rintro e w' ⟨rfl, rfl⟩
    refine ⟨?_, Below.refl _ _⟩
    rw [bs_list, show (⟨#[44, 32]⟩ : ByteArray).data.toList = [44, 32] from rfl, trim_list]
    rfl
  obtain ⟨R, hR⟩ : ∃ R, bs (listB c n.toNat) = R := ⟨_, rfl⟩
  obtain ⟨B, hB⟩ : ∃ B, bs (repB [c, 44, 32] n.toNat) = B := ⟨_, rfl⟩
  obtain ⟨C, hC⟩ : ∃ C, bs [c] = C := ⟨_, rfl⟩
  obtain ⟨D, hD⟩ : ∃ D, bs [c, 44, 32] = D := ⟨_, rfl⟩
  rw [hR] at ct ⊢
  rw [hB] at ct cr
  rw [hC] at z1 ⊢
  rw [hD] at z1 cr
  clear hR hB hC hD h0 hn
  go_enter Tryz.func92, Tryz.ntmps92
  go_wp2_with (first | (go_at_call 96; (with_reducible refine (cr _).mono ?_); intro e w2 hp; obtain ⟨rfl, hb⟩ := hp; have HB := Lib.hid hb; clear hb) | (go_at_call 110; (with_reducible refine (ct _).mono ?_); intro e w2 hp; obtain ⟨rfl, hb⟩ := hp; have HB2 := Lib.hid (HB.out.trans (hb.mono HB.out.size)); clear hb))
  go_ret
  exact ⟨rfl, HB2.out⟩
theorem brace_len (n : Nat) : (braceB n).length = 2 * n + 3 := by
  unfold braceB
  rw [List.length_append, List.length_append, rep_lenP]
  simp
  omega
set_option maxRecDepth 100000 in
set_option maxHeartbeats 4000000 in
theorem braced_any {w : World} {b o : Nat} {N : Nd} {k n : Int} {tx : ByteArray} {ns : List ByteArray} {ks : List Tree} (h : TAt w b o (.mk k n tx ns ks) N) (hl : ks.length ≤ 100000) : Calls Tryz.prog 91 #[.pointer (some ⟨b, o, none⟩)] w (PostR w (.string (bs (braceB ks.length)))) := by
  have n0 := h.k.kind (Below.refl _ _)
  have n1 := h.k.num (Below.refl _ _)
  have n2 := h.k.text (Below.refl _ _)
  have n4 := h.k.kids (Below.refl _ _)
  have e5 := h.kids
  have HB : Hid (Below w.heap.size w w) := Lib.hid (Below.refl _ _)
  rw [show N.kind = k from rd_kind h.r] at n0
  rw [show N.num = n from rd_num h.r] at n1
  rw [show N.text = tx from rd_text h.r] at n2
  rw [e5] at n4
  obtain ⟨m, hm⟩ : ∃ m, ks.length = m := ⟨_, rfl⟩
  rw [hm] at n4 hl ⊢
  have cr := fun w => repeated_any [32, 83] (m : Int) w (by simp) (by omega) (by omega)
  rw [show (m : Int).toNat = m from rfl] at cr
  obtain ⟨S2, z1, z2⟩ := cat3 [123] (repB [32, 83] m) [32, 125] (by rw [rep_lenP]; simp; omega)
  have z1 : ∀ w, (AddP ⟨#[123]⟩ (bs (repB [32, 83] m))).run Tryz.prog w = .ok (.string S2) w := z1
  have z2 : ∀ w, (AddP S2 ⟨#[32, 125]⟩).run Tryz.prog w = .ok (.string (bs (braceB m))) w := z2
  have cr : ∀ w, Calls Tryz.prog 96 #[.string ⟨#[32, 83]⟩, .int .i64 (m : Int)] w (PostR w (.string (bs (repB [32, 83] m)))) := cr
  obtain ⟨R, hR⟩ : ∃ R, bs (braceB m) = R := ⟨_, rfl⟩
  obtain ⟨Q, hQ⟩ : ∃ Q, bs (repB [32, 83] m) = Q := ⟨_, rfl⟩
  rw [hR] at z2 ⊢
  rw [hQ] at z1 cr
  clear h hl hm hR hQ e5
  go_enter Tryz.func91, Tryz.ntmps91
  go_wp2_with (first | (go_at_call 96; (with_reducible refine (cr _).mono ?_); intro e w2 hp; obtain ⟨rfl, hb⟩ := hp; have HB := Lib.hid (HB.out.trans (hb.mono HB.out.size)); clear hb))
  go_ret
  exact ⟨rfl, HB.out⟩
set_option maxRecDepth 100000 in
set_option maxHeartbeats 4000000 in
theorem flay_71 {w : World} {b o : Nat} {N : Nd} {k n : Int} {tx : ByteArray} {ns : List ByteArray} {ks : List Tree} (h : TAt w b o (.mk k n tx ns ks) N) (hl : ks.length ≤ 100000) : Calls Tryz.prog 65 #[.pointer (some ⟨b, o, none⟩), .int .i32 71] w (PostR w (.string (bs (funL 71 ks.length)))) := by
  have cb := braced_any h hl
  have HB : Hid (Below w.heap.size w w) := Lib.hid (Below.refl _ _)
  obtain ⟨m, hm⟩ : ∃ m, ks.length = m := ⟨_, rfl⟩
  rw [hm] at cb hl ⊢
  have hlen := brace_len m
  have z1 : ∀ w, (AddP ⟨#[40, 64, 41, 32]⟩ (bs (braceB m))).run Tryz.prog w = .ok (.string (bs ([40, 64, 41, 32] ++ braceB m))) w := fun w => run_adP [40, 64, 41, 32] (braceB m) (by simp) (by omega) w
  obtain ⟨R, hR⟩ : ∃ R, bs (funL 71 m) = R := ⟨_, rfl⟩
  obtain ⟨Q, hQ⟩ : ∃ Q, bs (braceB m) = Q := ⟨_, rfl⟩
  obtain ⟨P, hP⟩ : ∃ P, bs ([40, 64, 41, 32] ++ braceB m) = P := ⟨_, rfl⟩
  rw [hQ] at cb z1
  have e : bs (funL 71 m) = bs ([40, 64, 41, 32] ++ braceB m) := rfl
  rw [e, hP] at hR
  rw [hP] at z1
  rw [e, hP]
  clear h hl hm hR hQ hP hlen
  go_enter Tryz.func65, Tryz.ntmps65
  go_wp2_with (first | (go_at_call 91; (with_reducible refine (cb).mono ?_); intro e w2 hp; obtain ⟨rfl, hb⟩ := hp; have HB := Lib.hid (HB.out.trans (hb.mono HB.out.size)); clear hb))
  go_ret
  exact ⟨rfl, HB.out⟩
set_option maxRecDepth 100000 in
set_option maxHeartbeats 4000000 in
theorem flay_72 {w : World} {b o : Nat} {N : Nd} {k n : Int} {tx : ByteArray} {ns : List ByteArray} {ks : List Tree} (h : TAt w b o (.mk k n tx ns ks) N) (hl : ks.length ≤ 100000) : Calls Tryz.prog 65 #[.pointer (some ⟨b, o, none⟩), .int .i32 72] w (PostR w (.string (bs (funL 72 ks.length)))) := by
  have cb := braced_any h hl
  have HB : Hid (Below w.heap.size w w) := Lib.hid (Below.refl _ _)
  obtain ⟨m, hm⟩ : ∃ m, ks.length = m := ⟨_, rfl⟩
  rw [hm] at cb hl ⊢
  have hlen := brace_len m
  have z1 : ∀ w, (AddP ⟨#[40, 64, 41, 32]⟩ (bs (braceB m))).run Tryz.prog w = .ok (.string (bs ([40, 64, 41, 32] ++ braceB m))) w := fun w => run_adP [40, 64, 41, 32] (braceB m) (by simp) (by omega) w
  obtain ⟨R, hR⟩ : ∃ R, bs (funL 72 m) = R := ⟨_, rfl⟩
  obtain ⟨Q, hQ⟩ : ∃ Q, bs (braceB m) = Q := ⟨_, rfl⟩
  obtain ⟨P, hP⟩ : ∃ P, bs ([40, 64, 41, 32] ++ braceB m) = P := ⟨_, rfl⟩
  rw [hQ] at cb z1
  have e : bs (funL 72 m) = bs ([40, 64, 41, 32] ++ braceB m) := rfl
  rw [e, hP] at hR
  rw [hP] at z1
  rw [e, hP]
  clear h hl hm hR hQ hP hlen
  go_enter Tryz.func65, Tryz.ntmps65
  go_wp2_with (first | (go_at_call 91; (with_reducible refine (cb).mono ?_); intro e w2 hp; obtain ⟨rfl, hb⟩ := hp; have HB := Lib.hid (HB.out.trans (hb.mono HB.out.size)); clear hb))
  go_ret
  exact ⟨rfl, HB.out⟩
set_option maxRecDepth 100000 in
set_option maxHeartbeats 4000000 in
theorem flay_70 {w : World} {b o : Nat} {N : Nd} {k n : Int} {tx : ByteArray} {ns : List ByteArray} {ks : List Tree} (h : TAt w b o (.mk k n tx ns ks) N) (hl : ks.length ≤ 100000) : Calls Tryz.prog 65 #[.pointer (some ⟨b, o, none⟩), .int .i32 70] w (PostR w (.string (bs (funL 70 ks.length)))) := by
  have cb := braced_any h hl
  have HB : Hid (Below w.heap.size w w) := Lib.hid (Below.refl _ _)
  obtain ⟨m, hm⟩ : ∃ m, ks.length = m := ⟨_, rfl⟩
  rw [hm] at cb hl ⊢
  have hlen := brace_len m
  have z1 : ∀ w, (AddP ⟨#[40, 64, 41, 32]⟩ (bs (braceB m))).run Tryz.prog w = .ok (.string (bs ([40, 64, 41, 32] ++ braceB m))) w := fun w => run_adP [40, 64, 41, 32] (braceB m) (by simp) (by omega) w
  have z2 : ∀ w, (AddP ⟨#[102, 117, 110, 99, 116, 105, 111, 110, 32, 35]⟩ (bs ([40, 64, 41, 32] ++ braceB m))).run Tryz.prog w = .ok (.string (bs (funL 70 m))) w := fun w => run_adP [102, 117, 110, 99, 116, 105, 111, 110, 32, 35] ([40, 64, 41, 32] ++ braceB m) (by simp) (by simp; omega) w
  obtain ⟨R, hR⟩ : ∃ R, bs (funL 70 m) = R := ⟨_, rfl⟩
  obtain ⟨Q, hQ⟩ : ∃ Q, bs (braceB m) = Q := ⟨_, rfl⟩
  obtain ⟨P, hP⟩ : ∃ P, bs ([40, 64, 41, 32] ++ braceB m) = P := ⟨_, rfl⟩
  rw [hQ] at cb z1
  rw [hP] at z1 z2
  rw [hR] at z2 ⊢
  clear h hl hm hR hQ hP hlen
  go_enter Tryz.func65, Tryz.ntmps65
  go_wp2_with (first | (go_at_call 91; (with_reducible refine (cb).mono ?_); intro e w2 hp; obtain ⟨rfl, hb⟩ := hp; have HB := Lib.hid (HB.out.trans (hb.mono HB.out.size)); clear hb))
  go_ret
  exact ⟨rfl, HB.out⟩
set_option maxRecDepth 100000 in
set_option maxHeartbeats 4000000 in
theorem flay_65 {w : World} {b o : Nat} {N : Nd} {k n : Int} {tx : ByteArray} {ns : List ByteArray} {ks : List Tree} (h : TAt w b o (.mk k n tx ns ks) N) (hl : ks.length ≤ 100000) : Calls Tryz.prog 65 #[.pointer (some ⟨b, o, none⟩), .int .i32 65] w (PostR w (.string (bs (funL 65 ks.length)))) := by
  have cb := braced_any h hl
  have HB : Hid (Below w.heap.size w w) := Lib.hid (Below.refl _ _)
  obtain ⟨m, hm⟩ : ∃ m, ks.length = m := ⟨_, rfl⟩
  rw [hm] at cb hl ⊢
  have hlen := brace_len m
  have z1 : ∀ w, (AddP ⟨#[40, 64, 41, 32]⟩ (bs (braceB m))).run Tryz.prog w = .ok (.string (bs ([40, 64, 41, 32] ++ braceB m))) w := fun w => run_adP [40, 64, 41, 32] (braceB m) (by simp) (by omega) w
  obtain ⟨S2, z2, z3⟩ := cat3 [40, 102, 117, 110, 99, 116, 105, 111, 110, 32, 35] ([40, 64, 41, 32] ++ braceB m) [41] (by simp; omega)
  have z2 : ∀ w, (AddP ⟨#[40, 102, 117, 110, 99, 116, 105, 111, 110, 32, 35]⟩ (bs ([40, 64, 41, 32] ++ braceB m))).run Tryz.prog w = .ok (.string S2) w := z2
  have z3 : ∀ w, (AddP S2 ⟨#[41]⟩).run Tryz.prog w = .ok (.string (bs (funL 65 m))) w := z3
  obtain ⟨R, hR⟩ : ∃ R, bs (funL 65 m) = R := ⟨_, rfl⟩
  obtain ⟨Q, hQ⟩ : ∃ Q, bs (braceB m) = Q := ⟨_, rfl⟩
  obtain ⟨P, hP⟩ : ∃ P, bs ([40, 64, 41, 32] ++ braceB m) = P := ⟨_, rfl⟩
  rw [hQ] at cb z1
  rw [hP] at z1 z2
  rw [hR] at z3 ⊢
  clear h hl hm hR hQ hP hlen
  go_enter Tryz.func65, Tryz.ntmps65
  go_wp2_with (first | (go_at_call 91; (with_reducible refine (cb).mono ?_); intro e w2 hp; obtain ⟨rfl, hb⟩ := hp; have HB := Lib.hid (HB.out.trans (hb.mono HB.out.size)); clear hb))
  go_ret
  exact ⟨rfl, HB.out⟩
end Go.Proofs.YtinoaajohkafmaaGreat.Pr
