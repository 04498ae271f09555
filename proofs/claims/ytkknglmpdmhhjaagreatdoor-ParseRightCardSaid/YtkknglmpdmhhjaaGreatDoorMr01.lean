/-
  Texts of this seat in build order: PrSm, PrEx, PrKid.
-/
import Derived.Test.YtkknglmpdmhhjaaGreatDoorMr00
import Derived.Test.YtkknglmpdmhhjaaGreatDoorMg06
/-
  The reference's small functions of chapter 14: only, plainName, plainText, target, has.
-/
namespace Go.Proofs.YtkknglmpdmhhjaaGreatDoor.Pr
open Go Go.RowKit Go.Proofs.YtkknglmpdmhhjaaGreatDoor.Pa Go.Proofs.YtkknglmpdmhhjaaGreatDoor.Uni
open Go.Proofs.YtkknglmpdmhhjaaGreatDoor.Lx hiding nameF
set_option linter.unusedVariables false
set_option linter.unusedSimpArgs false
attribute [local go_sem ↓] ldK stK alK bdK bsK ldN stN alN bdN bsN
attribute [local irreducible] kcs ncs ncells
attribute [local go_sem] run_alN run_stNg run_ldNg run_bdN0

theorem nameL_iff : ∀ l : By, nameL l = true ↔ 0 < l.length ∧ ∀ j, j < l.length → leadN (l[j]?.getD 0).toNat = true ∨ (0 < j ∧ digitN (l[j]?.getD 0).toNat = true)
  | [] => by simp [nameL]
  | c :: r => by
    unfold nameL
    rw [Bool.and_eq_true, List.all_eq_true]
    constructor
    · rintro ⟨h1, h2⟩
      refine ⟨by simp, fun j hj => ?_⟩
      cases j with
      | zero => left; simpa using h1
      | succ j =>
        have hj2 : j < r.length := by simpa using hj
        have := h2 r[j] (List.getElem_mem hj2)
        unfold contN at this
        rw [Bool.or_eq_true] at this
        simp only [List.getElem?_cons_succ, List.getElem?_eq_getElem hj2, Option.getD_some]
        rcases this with h | h
        · exact .inl h
        · exact .inr ⟨by omega, h⟩
    · rintro ⟨-, h⟩
      refine ⟨?_, fun x hx => ?_⟩
      · rcases h 0 (by simp) with h | h
        · simpa using h
        · omega
      · obtain ⟨j, hj, rfl⟩ := List.getElem_of_mem hx
        have := h (j + 1) (by simp; omega)
        simp only [List.getElem?_cons_succ, List.getElem?_eq_getElem hj, Option.getD_some] at this
        unfold contN
        rw [Bool.or_eq_true]
        rcases this with h | h
        · exact .inl h
        · exact .inr h.2
theorem nameB_iff {s : ByteArray} (hs : s.size ≤ 1048576) : nameB s = true ↔ 0 < s.size ∧ NamedTo s s.size := by
  unfold nameB
  rw [decide_eq_true hs, Bool.and_true, nameL_iff]
  have e : s.data.toList.length = s.size := by simp
  rw [e]
  exact Iff.rfl
theorem named_b (s : ByteArray) (w : World) (hs : s.size ≤ 1048576) : Calls Tryz.prog 145 #[.string s] w fun e w' => e = .returned (.bool (nameB s)) ∧ w = w' := by
  refine (named_any s w (by omega)).mono ?_
  rintro e w' ⟨⟨b, rfl, hb⟩, rfl⟩
  refine ⟨?_, rfl⟩
  have := (nameB_iff hs)
  cases b with
  | true => rw [this.2 (hb.1 rfl)]
  | false =>
    cases h : nameB s with
    | false => rfl
    | true => exact absurd (hb.2 (this.1 h)) (by simp)
theorem tl_data (s : ByteArray) : s.toList = s.data.toList := ByteArray.toList_eq s

theorem plainName_0 (s : ByteArray) (w : World) (hs : s.size ≤ 1048576) (h : nameB s = false) : Calls Tryz.prog 94 #[.string s] w (PostR w (.bool false)) := by
  have c1 := named_b s w hs
  rw [h] at c1
  clear h hs
  go_enter Tryz.func94, Tryz.ntmps94
  go_wp2_with (go_at_call 145; (with_reducible refine c1.mono ?_); rintro e w1 ⟨rfl, rfl⟩)
  go_ret
  exact ⟨rfl, Below.refl _ _⟩
theorem plainName_10 (s : ByteArray) (w : World) (hs : s.size ≤ 1048576) (h : nameB s = true) (hw : wordF s.toList = 0) : Calls Tryz.prog 94 #[.string s] w (PostR w (.bool true)) := by
  have c1 := named_b s w hs
  have c2 := rword_any s w
  rw [h] at c1
  rw [hw] at c2
  clear h hs hw
  go_enter Tryz.func94, Tryz.ntmps94
  go_wp2_with (first | (go_at_call 145; (with_reducible refine c1.mono ?_); rintro e w1 ⟨rfl, rfl⟩) | (go_at_call 121; (with_reducible refine c2.mono ?_); rintro e w1 ⟨rfl, hb⟩; have HB := Lib.hid hb; clear hb))
  go_ret
  exact ⟨rfl, HB.out⟩
theorem plainName_11 (s : ByteArray) (w : World) (hs : s.size ≤ 1048576) (h : nameB s = true) (hw : wordF s.toList = 1) : Calls Tryz.prog 94 #[.string s] w (PostR w (.bool false)) := by
  have c1 := named_b s w hs
  have c2 := rword_any s w
  rw [h] at c1
  rw [hw] at c2
  clear h hs hw
  go_enter Tryz.func94, Tryz.ntmps94
  go_wp2_with (first | (go_at_call 145; (with_reducible refine c1.mono ?_); rintro e w1 ⟨rfl, rfl⟩) | (go_at_call 121; (with_reducible refine c2.mono ?_); rintro e w1 ⟨rfl, hb⟩; have HB := Lib.hid hb; clear hb))
  go_ret
  exact ⟨rfl, HB.out⟩
theorem plainName_12 (s : ByteArray) (w : World) (hs : s.size ≤ 1048576) (h : nameB s = true) (hw : wordF s.toList = 2) : Calls Tryz.prog 94 #[.string s] w (PostR w (.bool false)) := by
  have c1 := named_b s w hs
  have c2 := rword_any s w
  rw [h] at c1
  rw [hw] at c2
  clear h hs hw
  go_enter Tryz.func94, Tryz.ntmps94
  go_wp2_with (first | (go_at_call 145; (with_reducible refine c1.mono ?_); rintro e w1 ⟨rfl, rfl⟩) | (go_at_call 121; (with_reducible refine c2.mono ?_); rintro e w1 ⟨rfl, hb⟩; have HB := Lib.hid hb; clear hb))
  go_ret
  exact ⟨rfl, HB.out⟩
theorem plainName_any (s : ByteArray) (w : World) (hs : s.size ≤ 1048576) : Calls Tryz.prog 94 #[.string s] w (PostR w (.bool (varB s))) := by
  unfold varB
  rw [← tl_data]
  cases h : nameB s with
  | false => exact plainName_0 s w hs h
  | true =>
    rcases (by unfold wordF; split; exact .inr (.inl rfl); split; exact .inr (.inr rfl); exact .inl rfl : wordF s.toList = 0 ∨ wordF s.toList = 1 ∨ wordF s.toList = 2) with h2 | h2 | h2
    · rw [h2]; exact plainName_10 s w hs h h2
    · rw [h2]; exact plainName_11 s w hs h h2
    · rw [h2]; exact plainName_12 s w hs h h2
theorem plainText_0 (s : ByteArray) (w : World) (hs : s.size ≤ 1048576) (h : (pts s).isSome = false) : Calls Tryz.prog 146 #[.string s] w (PostR w (.bool false)) := by
  have c1 := rightText_any s w (by omega)
  rw [h] at c1
  clear h hs
  go_enter Tryz.func146, Tryz.ntmps146
  go_wp2_with (go_at_call 193; (with_reducible refine c1.mono ?_); rintro e w1 ⟨rfl, hb⟩; have HB := Lib.hid hb; clear hb)
  go_ret
  exact ⟨rfl, HB.out⟩
theorem plainText_1 (s : ByteArray) (w : World) (hs : s.size ≤ 1048576) (h : (pts s).isSome = true) : Calls Tryz.prog 146 #[.string s] w (PostR w (.bool (decide ((units s).length ≤ 10000)))) := by
  have c1 := rightText_any s w (by omega)
  have c2 := fun w => runits_any s w (by omega)
  rw [h] at c1
  obtain ⟨m, hm⟩ : ∃ m, (units s).length = m := ⟨_, rfl⟩
  obtain ⟨b, hb⟩ : ∃ b, decide ((m : Int) ≤ 10000) = b := ⟨_, rfl⟩
  have hb2 : decide (m ≤ 10000) = b := by rw [← hb]; exact decide_eq_decide.2 (by omega)
  rw [hm, hb2]
  have HM := Lib.hid hm
  clear h hs hm hb2
  go_enter Tryz.func146, Tryz.ntmps146
  go_wp2_with (first | (go_at_call 193; (with_reducible refine c1.mono ?_); rintro e w1 ⟨rfl, hb⟩; have HB := Lib.hid hb; clear hb) | (go_at_call 165; (with_reducible refine (c2 _).mono ?_); rintro e w2 ⟨v, rfl, hown, hb3⟩; obtain ⟨ao, cp, rfl⟩ := own_shape hown; rw [HM.out]; have HB2 := Lib.hid (HB.out.trans (hb3.mono HB.out.size)); clear hb3 hown))
  go_ret
  exact ⟨rfl, HB2.out⟩
theorem plainText_any (s : ByteArray) (w : World) (hs : s.size ≤ 1048576) : Calls Tryz.prog 146 #[.string s] w (PostR w (.bool (rtB s))) := by
  unfold rtB
  cases h : (pts s).isSome with
  | false => exact plainText_0 s w hs h
  | true => exact plainText_1 s w hs h

/-! ### only -/
def onlyB (a b c : Bool) (N : Nd) : Bool := (a || N.num == 0) && ((b || N.text.toList.isEmpty) && (c || N.names.n == 0))
theorem bl_new (w : World) (o : Obj) : Below w.heap.size w (w.alloc o) := bel1
set_option maxRecDepth 100000 in
theorem only_fff (N : Nd) (w : World) : Calls Tryz.prog 28 #[.agg (ncs N), .bool false, .bool false, .bool false] w (PostR w (.bool (onlyB false false false N))) := by
  unfold onlyB
  obtain ⟨m, hm⟩ : ∃ m, N.names.n = m := ⟨_, rfl⟩
  obtain ⟨q, hq⟩ : ∃ q, ((m : Int) == 0) = q := ⟨_, rfl⟩
  have hq2 : (m == 0) = q := by rw [← hq, Bool.eq_iff_iff]; simp
  have hB : Below w.heap.size w (w.alloc (.cells (ncs N) 27)) := bel1
  have bN := Blk.new w (ncs N) 27
  have n0 := (bN.cell 0).trans (ncs_0 N)
  have n1 := (bN.cell 1).trans (ncs_1 N)
  have n2 := (bN.cell 2).trans (ncs_2 N)
  have n3 := (bN.cell 3).trans (ncs_3 N)
  have n4 := (bN.cell 4).trans (ncs_4 N)
  have HB := Lib.hid hB
  clear hB bN
  rw [hm] at n3 ⊢
  rw [hq2]
  clear hq2 hm
  cases h1 : N.num == 0 <;> cases h2 : N.text.toList.isEmpty <;> cases q <;> (
    go_enter Tryz.func28, Tryz.ntmps28
    go_wp2
    go_ret
    exact ⟨rfl, HB.out⟩)
set_option maxRecDepth 100000 in
theorem only_tff (N : Nd) (w : World) : Calls Tryz.prog 28 #[.agg (ncs N), .bool true, .bool false, .bool false] w (PostR w (.bool (onlyB true false false N))) := by
  unfold onlyB
  obtain ⟨m, hm⟩ : ∃ m, N.names.n = m := ⟨_, rfl⟩
  obtain ⟨q, hq⟩ : ∃ q, ((m : Int) == 0) = q := ⟨_, rfl⟩
  have hq2 : (m == 0) = q := by rw [← hq, Bool.eq_iff_iff]; simp
  have hB : Below w.heap.size w (w.alloc (.cells (ncs N) 27)) := bel1
  have bN := Blk.new w (ncs N) 27
  have n0 := (bN.cell 0).trans (ncs_0 N)
  have n1 := (bN.cell 1).trans (ncs_1 N)
  have n2 := (bN.cell 2).trans (ncs_2 N)
  have n3 := (bN.cell 3).trans (ncs_3 N)
  have n4 := (bN.cell 4).trans (ncs_4 N)
  have HB := Lib.hid hB
  clear hB bN
  rw [hm] at n3 ⊢
  rw [hq2]
  clear hq2 hm
  cases h1 : N.num == 0 <;> cases h2 : N.text.toList.isEmpty <;> cases q <;> (
    go_enter Tryz.func28, Tryz.ntmps28
    go_wp2
    go_ret
    exact ⟨rfl, HB.out⟩)
set_option maxRecDepth 100000 in
theorem only_ftf (N : Nd) (w : World) : Calls Tryz.prog 28 #[.agg (ncs N), .bool false, .bool true, .bool false] w (PostR w (.bool (onlyB false true false N))) := by
  unfold onlyB
  obtain ⟨m, hm⟩ : ∃ m, N.names.n = m := ⟨_, rfl⟩
  obtain ⟨q, hq⟩ : ∃ q, ((m : Int) == 0) = q := ⟨_, rfl⟩
  have hq2 : (m == 0) = q := by rw [← hq, Bool.eq_iff_iff]; simp
  have hB : Below w.heap.size w (w.alloc (.cells (ncs N) 27)) := bel1
  have bN := Blk.new w (ncs N) 27
  have n0 := (bN.cell 0).trans (ncs_0 N)
  have n1 := (bN.cell 1).trans (ncs_1 N)
  have n2 := (bN.cell 2).trans (ncs_2 N)
  have n3 := (bN.cell 3).trans (ncs_3 N)
  have n4 := (bN.cell 4).trans (ncs_4 N)
  have HB := Lib.hid hB
  clear hB bN
  rw [hm] at n3 ⊢
  rw [hq2]
  clear hq2 hm
  cases h1 : N.num == 0 <;> cases h2 : N.text.toList.isEmpty <;> cases q <;> (
    go_enter Tryz.func28, Tryz.ntmps28
    go_wp2
    go_ret
    exact ⟨rfl, HB.out⟩)

/-! ### target -/
set_option maxRecDepth 100000 in
theorem target_any (N : Nd) (w : World) : Calls Tryz.prog 149 #[.agg (ncs N)] w (PostR w (.bool (N.kind == 8 || (N.kind == 15 || N.kind == 16)))) := by
  have hB : Below w.heap.size w (w.alloc (.cells (ncs N) 27)) := bel1
  have bN := Blk.new w (ncs N) 27
  have n0 := (bN.cell 0).trans (ncs_0 N)
  have n1 := (bN.cell 1).trans (ncs_1 N)
  have n2 := (bN.cell 2).trans (ncs_2 N)
  have n3 := (bN.cell 3).trans (ncs_3 N)
  have n4 := (bN.cell 4).trans (ncs_4 N)
  have HB := Lib.hid hB
  clear hB bN
  cases h1 : N.kind == 8 <;> cases h2 : N.kind == 15 <;> cases h3 : N.kind == 16 <;> (
    go_enter Tryz.func149, Tryz.ntmps149
    go_wp2
    go_ret
    exact ⟨rfl, HB.out⟩)

def un3L : List By := [[33], [45], [116, 121, 112, 101, 111, 102]]
def un3_cs : Array Value := (strs un3L).toArray
theorem bs_un3 (ps : Array (Nat × Value)) : Instr.buildSlice 24 3 ps = Lx.BsS 3 ps := (rfl)
theorem run_un3 (w : World) : (Lx.BsS 3 #[(0, .string ⟨#[33]⟩), (1, .string ⟨#[45]⟩), (2, .string ⟨#[116, 121, 112, 101, 111, 102]⟩)]).run Tryz.prog w = .ok (.slice (some ⟨w.heap.size, 0, none⟩) 3 3) (w.alloc (.cells un3_cs 9)) := by
  obtain ⟨i, hi, hz, hs, hb⟩ := info_parts infoS
  exact run_buildSlice w 24 9 3 _ un3_cs i (.string ⟨#[]⟩) Tryz.underlying24 hi hz (by rw [hs]; decide) (by rw [hs]; decide) (by rw [hs]; kernel_rfl)
theorem un3_at {w : World} {o : Nat} (h : Blk w o un3_cs 9) : ∀ k, k < 3 → w.cell? ⟨o, k, none⟩ = some (.string (bs (un3L.getD k []))) := cs_at rfl h
theorem has_un3 (b : Nat) (s : ByteArray) (w : World) (h : Blk w b un3_cs 9) : Calls Tryz.prog 148 #[.slice (some ⟨b, 0, none⟩) 3 3, .string s] w (PostR w (.bool (un3L.contains s.data.toList))) := by
  refine (has_any b 3 un3L s w (by decide) (by decide) (un3_at h)).mono ?_
  rintro e w' ⟨rfl, rfl⟩
  refine ⟨?_, Below.refl _ _⟩
  rw [tl_data]
  congr 2
  cases hq : un3L.contains s.data.toList with
  | true => exact decide_eq_true (by simpa using hq)
  | false => exact decide_eq_false (by simpa using hq)

def bin12L : List By := [[61, 61, 61], [33, 61, 61], [60], [62], [60, 61], [62, 61], [105, 110], [43], [45], [42], [47], [37]]
def bin12_cs : Array Value := (strs bin12L).toArray
theorem bs_bin12 (ps : Array (Nat × Value)) : Instr.buildSlice 24 12 ps = Lx.BsS 12 ps := (rfl)
theorem run_bin12 (w : World) : (Lx.BsS 12 #[(0, .string ⟨#[61, 61, 61]⟩), (1, .string ⟨#[33, 61, 61]⟩), (2, .string ⟨#[60]⟩), (3, .string ⟨#[62]⟩), (4, .string ⟨#[60, 61]⟩), (5, .string ⟨#[62, 61]⟩), (6, .string ⟨#[105, 110]⟩), (7, .string ⟨#[43]⟩), (8, .string ⟨#[45]⟩), (9, .string ⟨#[42]⟩), (10, .string ⟨#[47]⟩), (11, .string ⟨#[37]⟩)]).run Tryz.prog w = .ok (.slice (some ⟨w.heap.size, 0, none⟩) 12 12) (w.alloc (.cells bin12_cs 9)) := by
  obtain ⟨i, hi, hz, hs, hb⟩ := info_parts infoS
  exact run_buildSlice w 24 9 12 _ bin12_cs i (.string ⟨#[]⟩) Tryz.underlying24 hi hz (by rw [hs]; decide) (by rw [hs]; decide) (by rw [hs]; kernel_rfl)
theorem bin12_at {w : World} {o : Nat} (h : Blk w o bin12_cs 9) : ∀ k, k < 12 → w.cell? ⟨o, k, none⟩ = some (.string (bs (bin12L.getD k []))) := cs_at rfl h
theorem has_bin12 (b : Nat) (s : ByteArray) (w : World) (h : Blk w b bin12_cs 9) : Calls Tryz.prog 148 #[.slice (some ⟨b, 0, none⟩) 12 12, .string s] w (PostR w (.bool (bin12L.contains s.data.toList))) := by
  refine (has_any b 12 bin12L s w (by decide) (by decide) (bin12_at h)).mono ?_
  rintro e w' ⟨rfl, rfl⟩
  refine ⟨?_, Below.refl _ _⟩
  rw [tl_data]
  congr 2
  cases hq : bin12L.contains s.data.toList with
  | true => exact decide_eq_true (by simpa using hq)
  | false => exact decide_eq_false (by simpa using hq)
end Go.Proofs.YtkknglmpdmhhjaaGreatDoor.Pr

/-
  The reference's expression, kind by kind.
-/
namespace Go.Proofs.YtkknglmpdmhhjaaGreatDoor.Pr
open Go Go.RowKit Go.Proofs.YtkknglmpdmhhjaaGreatDoor.Pa Go.Proofs.YtkknglmpdmhhjaaGreatDoor.Uni
open Go.Proofs.YtkknglmpdmhhjaaGreatDoor.Lx hiding nameF
set_option linter.unusedVariables false
set_option linter.unusedSimpArgs false

def onlyV (a b c : Bool) (n : Int) (t : ByteArray) (m : Nat) : Bool := (a || n == 0) && ((b || t.toList.isEmpty) && (c || m == 0))
theorem len_zero (ns : List ByteArray) : (ns.length == 0) = ns.isEmpty := by cases ns <;> simp
theorem tl_data_only {a b c : Bool} {n : Int} {t : ByteArray} {ns : List ByteArray} : onlyV a b c n t ns.length = ((a || decide (n = 0)) && ((b || t.data.toList.isEmpty) && (c || ns.isEmpty))) := by unfold onlyV; rw [tl_data, len_zero]; rfl
mutual
/-- All texts and names are of at most 2^20 bytes. -/
def Str : Tree → Prop
  | .mk k n t ns ks => t.size ≤ 1048576 ∧ (∀ x ∈ ns, x.size ≤ 1048576) ∧ Strs ks
def Strs : List Tree → Prop
  | [] => True
  | t :: ts => Str t ∧ Strs ts
end
theorem Str.of {k n : Int} {t : ByteArray} {ns : List ByteArray} {ks : List Tree} (h : Str (.mk k n t ns ks)) : t.size ≤ 1048576 ∧ (∀ x ∈ ns, x.size ≤ 1048576) ∧ Strs ks := by unfold Str at h; exact h
theorem Strs.at : ∀ {ts : List Tree} {i : Nat} {t : Tree}, Strs ts → ts[i]? = some t → Str t
  | [], i, t, _, h => by simp at h
  | a :: l, 0, t, hs, h => by
    simp at h; subst h
    unfold Strs at hs
    exact hs.1
  | a :: l, i + 1, t, hs, h => by
    simp at h
    unfold Strs at hs
    exact Strs.at hs.2 h
theorem Strs.drop : ∀ {ts : List Tree} (n : Nat), Strs ts → Strs (ts.drop n)
  | ts, 0, h => h
  | [], n + 1, h => h
  | a :: l, n + 1, h => by
    unfold Strs at h
    exact Strs.drop n h.2
def ExpC (t : Tree) : Prop := ∀ {N : Nd} {w : World}, Rd w t N → Str t → Calls Tryz.prog 97 #[.agg (ncs N)] w (PostR w (.bool (okT 65 t)))
def ExpsC (ts : List Tree) : Prop := ∀ {s : Sl} {xs : List Nd} {w : World}, Lst w s xs → Rds w ts xs → Strs ts → Calls Tryz.prog 95 #[.slice s.a s.n s.c] w (PostR w (.bool (allT 65 ts)))
theorem named_p (s : ByteArray) (w : World) (hs : s.size ≤ 1048576) : Calls Tryz.prog 145 #[.string s] w (PostR w (.bool (nameB s))) := by
  refine (named_b s w hs).mono ?_
  rintro e w' ⟨rfl, rfl⟩
  exact ⟨rfl, Below.refl _ _⟩
theorem ex_start {k n : Int} {tx : ByteArray} {ns : List ByteArray} {ks : List Tree} {N : Nd} {w : World} (hr : Rd w (.mk k n tx ns ks) N) (IH : ExpsC ks) (hs : Strs ks) :
    Blk (w.alloc (.cells (ncs N) 27)) w.heap.size (ncs N) 27 ∧
    (w.alloc (.cells (ncs N) 27)).cell? ⟨w.heap.size, 0, none⟩ = some (.int .i64 N.kind) ∧
    (w.alloc (.cells (ncs N) 27)).cell? ⟨w.heap.size, 1, none⟩ = some (.int .i64 N.num) ∧
    (w.alloc (.cells (ncs N) 27)).cell? ⟨w.heap.size, 2, none⟩ = some (.string N.text) ∧
    (w.alloc (.cells (ncs N) 27)).cell? ⟨w.heap.size, 3, none⟩ = some (.slice N.names.a N.names.n N.names.c) ∧
    (w.alloc (.cells (ncs N) 27)).cell? ⟨w.heap.size, 4, none⟩ = some (.slice N.kids.a N.kids.n N.kids.c) ∧
    Hid (Below w.heap.size w (w.alloc (.cells (ncs N) 27))) ∧
    N.kind = k ∧ N.num = n ∧ N.text = tx ∧ N.names.n = ns.length ∧ N.kids.n = ks.length ∧
    ∀ W, Below w.heap.size w W → Calls Tryz.prog 95 #[.slice N.kids.a N.kids.n N.kids.c] W (PostR W (.bool (allT 65 ks))) := by
  have bN := Blk.new w (ncs N) 27
  unfold Rd at hr
  obtain ⟨h1, h2, h3, h4, xs, h5, h6⟩ := hr
  refine ⟨bN, (bN.cell 0).trans (ncs_0 N), (bN.cell 1).trans (ncs_1 N), (bN.cell 2).trans (ncs_2 N), (bN.cell 3).trans (ncs_3 N), (bN.cell 4).trans (ncs_4 N), Lib.hid bel1, h1, h2, h3, h4.1, by rw [h5.1, Rds.len h6], fun W hb => ?_⟩
  exact IH (h5.kept (kept_below hb)) (h6.below hb) hs
theorem okx_1 (n : Int) (tx : ByteArray) (ns : List ByteArray) (ks : List Tree) : okT 65 (.mk 1 n tx ns ks) = (onlyV true false false n tx ns.length && (decide (ks.length = 0) && (decide (0 ≤ n) && decide (n ≤ 9007199254740991)))) := by
  rw [tl_data_only]
  rcases ks with _ | ⟨a, _ | ⟨b, _ | ⟨c, _ | ⟨d, ks⟩⟩⟩⟩ <;> simp [okT, okKs, hereB, kindB, textB, namesB, numB, elseB, elseL, placesB, layB, exL, stL, funL, tryL, headK, emptyB, onlyV, isUp, allT, up_app, up_list, up_rep, up_brace, propB, bin12L, binL] <;> grind
theorem okx_2 (n : Int) (tx : ByteArray) (ns : List ByteArray) (ks : List Tree) : okT 65 (.mk 2 n tx ns ks) = (onlyV false true false n tx ns.length && (decide (ks.length = 0) && rtB tx)) := by
  rw [tl_data_only]
  rcases ks with _ | ⟨a, _ | ⟨b, _ | ⟨c, _ | ⟨d, ks⟩⟩⟩⟩ <;> simp [okT, okKs, hereB, kindB, textB, namesB, numB, elseB, elseL, placesB, layB, exL, stL, funL, tryL, headK, emptyB, onlyV, isUp, allT, up_app, up_list, up_rep, up_brace, propB, bin12L, binL] <;> grind
theorem okx_3 (n : Int) (tx : ByteArray) (ns : List ByteArray) (ks : List Tree) : okT 65 (.mk 3 n tx ns ks) = (onlyV false false false n tx ns.length && decide (ks.length = 0)) := by
  rw [tl_data_only]
  rcases ks with _ | ⟨a, _ | ⟨b, _ | ⟨c, _ | ⟨d, ks⟩⟩⟩⟩ <;> simp [okT, okKs, hereB, kindB, textB, namesB, numB, elseB, elseL, placesB, layB, exL, stL, funL, tryL, headK, emptyB, onlyV, isUp, allT, up_app, up_list, up_rep, up_brace, propB, bin12L, binL] <;> grind
theorem okx_4 (n : Int) (tx : ByteArray) (ns : List ByteArray) (ks : List Tree) : okT 65 (.mk 4 n tx ns ks) = (onlyV false false false n tx ns.length && decide (ks.length = 0)) := by
  rw [tl_data_only]
  rcases ks with _ | ⟨a, _ | ⟨b, _ | ⟨c, _ | ⟨d, ks⟩⟩⟩⟩ <;> simp [okT, okKs, hereB, kindB, textB, namesB, numB, elseB, elseL, placesB, layB, exL, stL, funL, tryL, headK, emptyB, onlyV, isUp, allT, up_app, up_list, up_rep, up_brace, propB, bin12L, binL] <;> grind
theorem okx_5 (n : Int) (tx : ByteArray) (ns : List ByteArray) (ks : List Tree) : okT 65 (.mk 5 n tx ns ks) = (onlyV false false false n tx ns.length && decide (ks.length = 0)) := by
  rw [tl_data_only]
  rcases ks with _ | ⟨a, _ | ⟨b, _ | ⟨c, _ | ⟨d, ks⟩⟩⟩⟩ <;> simp [okT, okKs, hereB, kindB, textB, namesB, numB, elseB, elseL, placesB, layB, exL, stL, funL, tryL, headK, emptyB, onlyV, isUp, allT, up_app, up_list, up_rep, up_brace, propB, bin12L, binL] <;> grind
theorem okx_6 (n : Int) (tx : ByteArray) (ns : List ByteArray) (ks : List Tree) : okT 65 (.mk 6 n tx ns ks) = (onlyV false false false n tx ns.length && decide (ks.length = 0)) := by
  rw [tl_data_only]
  rcases ks with _ | ⟨a, _ | ⟨b, _ | ⟨c, _ | ⟨d, ks⟩⟩⟩⟩ <;> simp [okT, okKs, hereB, kindB, textB, namesB, numB, elseB, elseL, placesB, layB, exL, stL, funL, tryL, headK, emptyB, onlyV, isUp, allT, up_app, up_list, up_rep, up_brace, propB, bin12L, binL] <;> grind
theorem okx_7 (n : Int) (tx : ByteArray) (ns : List ByteArray) (ks : List Tree) : okT 65 (.mk 7 n tx ns ks) = (onlyV false false false n tx ns.length && decide (ks.length = 0)) := by
  rw [tl_data_only]
  rcases ks with _ | ⟨a, _ | ⟨b, _ | ⟨c, _ | ⟨d, ks⟩⟩⟩⟩ <;> simp [okT, okKs, hereB, kindB, textB, namesB, numB, elseB, elseL, placesB, layB, exL, stL, funL, tryL, headK, emptyB, onlyV, isUp, allT, up_app, up_list, up_rep, up_brace, propB, bin12L, binL] <;> grind
theorem okx_8 (n : Int) (tx : ByteArray) (ns : List ByteArray) (ks : List Tree) : okT 65 (.mk 8 n tx ns ks) = (onlyV false true false n tx ns.length && (decide (ks.length = 0) && varB tx)) := by
  rw [tl_data_only]
  rcases ks with _ | ⟨a, _ | ⟨b, _ | ⟨c, _ | ⟨d, ks⟩⟩⟩⟩ <;> simp [okT, okKs, hereB, kindB, textB, namesB, numB, elseB, elseL, placesB, layB, exL, stL, funL, tryL, headK, emptyB, onlyV, isUp, allT, up_app, up_list, up_rep, up_brace, propB, bin12L, binL] <;> grind
theorem okx_9 (n : Int) (tx : ByteArray) (ns : List ByteArray) (ks : List Tree) : okT 65 (.mk 9 n tx ns ks) = (onlyV false false false n tx ns.length && allT 65 ks) := by
  have h := okKs_rep 65 ks
  rw [okT, tl_data_only]
  simp [hereB, kindB, textB, namesB, numB, elseB, placesB, layB, exL, emptyB, isUp, up_app, up_list, h, Bool.and_assoc, Bool.and_comm, Bool.and_left_comm]
theorem okx_15 (n : Int) (tx : ByteArray) (ns : List ByteArray) (ks : List Tree) : okT 65 (.mk 15 n tx ns ks) = (onlyV false true false n tx ns.length && (decide (ks.length = 1) && (nameB tx && (decide (wordF tx.data.toList < 2) && allT 65 ks)))) := by
  rw [tl_data_only]
  rcases ks with _ | ⟨a, _ | ⟨b, _ | ⟨c, _ | ⟨d, ks⟩⟩⟩⟩ <;> simp [okT, okKs, hereB, kindB, textB, namesB, numB, elseB, elseL, placesB, layB, exL, stL, funL, tryL, headK, emptyB, onlyV, isUp, allT, up_app, up_list, up_rep, up_brace, propB, bin12L, binL] <;> grind
theorem okx_16 (n : Int) (tx : ByteArray) (ns : List ByteArray) (ks : List Tree) : okT 65 (.mk 16 n tx ns ks) = (onlyV false false false n tx ns.length && (decide (ks.length = 2) && allT 65 ks)) := by
  rw [tl_data_only]
  rcases ks with _ | ⟨a, _ | ⟨b, _ | ⟨c, _ | ⟨d, ks⟩⟩⟩⟩ <;> simp [okT, okKs, hereB, kindB, textB, namesB, numB, elseB, elseL, placesB, layB, exL, stL, funL, tryL, headK, emptyB, onlyV, isUp, allT, up_app, up_list, up_rep, up_brace, propB, bin12L, binL] <;> grind
theorem okx_17 (n : Int) (tx : ByteArray) (ns : List ByteArray) (ks : List Tree) : okT 65 (.mk 17 n tx ns ks) = (onlyV false false false n tx ns.length && (decide (1 ≤ ks.length) && allT 65 ks)) := by
  rw [tl_data_only]
  rcases ks with _ | ⟨a, ks⟩
  · simp [okT, okKs, hereB, kindB, textB, namesB, numB, elseB, elseL, placesB, layB, exL, stL, funL, tryL, headK, emptyB, onlyV, isUp, allT, up_app, up_list, up_rep, up_brace]
  · have h := okKs_rep 65 ks
    simp only [allT, List.all_cons]
    simp [okT, okKs, hereB, kindB, textB, namesB, numB, elseB, elseL, placesB, layB, exL, stL, funL, tryL, headK, emptyB, onlyV, isUp, up_app, up_list, up_rep, up_brace, h]
    simp [allT, Bool.and_assoc, Bool.and_comm, Bool.and_left_comm]
theorem okx_18 (n : Int) (tx : ByteArray) (ns : List ByteArray) (ks : List Tree) : okT 65 (.mk 18 n tx ns ks) = (onlyV false false false n tx ns.length && (decide (1 ≤ ks.length) && allT 65 ks)) := by
  rw [tl_data_only]
  rcases ks with _ | ⟨a, ks⟩
  · simp [okT, okKs, hereB, kindB, textB, namesB, numB, elseB, elseL, placesB, layB, exL, stL, funL, tryL, headK, emptyB, onlyV, isUp, allT, up_app, up_list, up_rep, up_brace]
  · have h := okKs_rep 65 ks
    simp only [allT, List.all_cons]
    simp [okT, okKs, hereB, kindB, textB, namesB, numB, elseB, elseL, placesB, layB, exL, stL, funL, tryL, headK, emptyB, onlyV, isUp, up_app, up_list, up_rep, up_brace, h]
    simp [allT, Bool.and_assoc, Bool.and_comm, Bool.and_left_comm]
theorem okx_20 (n : Int) (tx : ByteArray) (ns : List ByteArray) (ks : List Tree) : okT 65 (.mk 20 n tx ns ks) = (onlyV false true false n tx ns.length && (decide (ks.length = 2) && (allT 65 ks && bin12L.contains tx.data.toList))) := by
  rw [tl_data_only]
  rcases ks with _ | ⟨a, _ | ⟨b, _ | ⟨c, _ | ⟨d, ks⟩⟩⟩⟩ <;> simp [okT, okKs, hereB, kindB, textB, namesB, numB, elseB, elseL, placesB, layB, exL, stL, funL, tryL, headK, emptyB, onlyV, isUp, allT, up_app, up_list, up_rep, up_brace, propB, bin12L, binL] <;> grind
theorem okx_21 (n : Int) (tx : ByteArray) (ns : List ByteArray) (ks : List Tree) : okT 65 (.mk 21 n tx ns ks) = (onlyV false false false n tx ns.length && (decide (ks.length = 2) && allT 65 ks)) := by
  rw [tl_data_only]
  rcases ks with _ | ⟨a, _ | ⟨b, _ | ⟨c, _ | ⟨d, ks⟩⟩⟩⟩ <;> simp [okT, okKs, hereB, kindB, textB, namesB, numB, elseB, elseL, placesB, layB, exL, stL, funL, tryL, headK, emptyB, onlyV, isUp, allT, up_app, up_list, up_rep, up_brace, propB, bin12L, binL] <;> grind
theorem okx_22 (n : Int) (tx : ByteArray) (ns : List ByteArray) (ks : List Tree) : okT 65 (.mk 22 n tx ns ks) = (onlyV false false false n tx ns.length && (decide (ks.length = 2) && allT 65 ks)) := by
  rw [tl_data_only]
  rcases ks with _ | ⟨a, _ | ⟨b, _ | ⟨c, _ | ⟨d, ks⟩⟩⟩⟩ <;> simp [okT, okKs, hereB, kindB, textB, namesB, numB, elseB, elseL, placesB, layB, exL, stL, funL, tryL, headK, emptyB, onlyV, isUp, allT, up_app, up_list, up_rep, up_brace, propB, bin12L, binL] <;> grind
theorem okx_23 (n : Int) (tx : ByteArray) (ns : List ByteArray) (ks : List Tree) : okT 65 (.mk 23 n tx ns ks) = (onlyV false false false n tx ns.length && (decide (ks.length = 3) && allT 65 ks)) := by
  rw [tl_data_only]
  rcases ks with _ | ⟨a, _ | ⟨b, _ | ⟨c, _ | ⟨d, ks⟩⟩⟩⟩ <;> simp [okT, okKs, hereB, kindB, textB, namesB, numB, elseB, elseL, placesB, layB, exL, stL, funL, tryL, headK, emptyB, onlyV, isUp, allT, up_app, up_list, up_rep, up_brace, propB, bin12L, binL] <;> grind
end Go.Proofs.YtkknglmpdmhhjaaGreatDoor.Pr

/-
  A node's kids, in memory.
-/
namespace Go.Proofs.YtkknglmpdmhhjaaGreatDoor.Pr
open Go Go.RowKit Go.Proofs.YtkknglmpdmhhjaaGreatDoor.Pa Go.Proofs.YtkknglmpdmhhjaaGreatDoor.Uni
open Go.Proofs.YtkknglmpdmhhjaaGreatDoor.Lx hiding nameF
set_option linter.unusedVariables false
set_option linter.unusedSimpArgs false

theorem nd_start {k n : Int} {tx : ByteArray} {ns : List ByteArray} {ks : List Tree} {N : Nd} {w : World} (hr : Rd w (.mk k n tx ns ks) N) :
    Blk (w.alloc (.cells (ncs N) 27)) w.heap.size (ncs N) 27 ∧
    (w.alloc (.cells (ncs N) 27)).cell? ⟨w.heap.size, 0, none⟩ = some (.int .i64 N.kind) ∧
    (w.alloc (.cells (ncs N) 27)).cell? ⟨w.heap.size, 1, none⟩ = some (.int .i64 N.num) ∧
    (w.alloc (.cells (ncs N) 27)).cell? ⟨w.heap.size, 2, none⟩ = some (.string N.text) ∧
    (w.alloc (.cells (ncs N) 27)).cell? ⟨w.heap.size, 3, none⟩ = some (.slice N.names.a N.names.n N.names.c) ∧
    (w.alloc (.cells (ncs N) 27)).cell? ⟨w.heap.size, 4, none⟩ = some (.slice N.kids.a N.kids.n N.kids.c) ∧
    Hid (Below w.heap.size w (w.alloc (.cells (ncs N) 27))) ∧
    N.kind = k ∧ N.num = n ∧ N.text = tx ∧ N.names.n = ns.length ∧ N.kids.n = ks.length := by
  have bN := Blk.new w (ncs N) 27
  unfold Rd at hr
  obtain ⟨h1, h2, h3, h4, xs, h5, h6⟩ := hr
  exact ⟨bN, (bN.cell 0).trans (ncs_0 N), (bN.cell 1).trans (ncs_1 N), (bN.cell 2).trans (ncs_2 N), (bN.cell 3).trans (ncs_3 N), (bN.cell 4).trans (ncs_4 N), Lib.hid bel1, h1, h2, h3, h4.1, by rw [h5.1, Rds.len h6]⟩
def StmC (t : Tree) : Prop := ∀ {N : Nd} {w : World}, Rd w t N → Str t → Calls Tryz.prog 46 #[.agg (ncs N)] w (PostR w (.bool (okT 83 t)))
def StmsC (ts : List Tree) : Prop := ∀ {s : Sl} {xs : List Nd} {w : World}, Lst w s xs → Rds w ts xs → Strs ts → Calls Tryz.prog 29 #[.slice s.a s.n s.c] w (PostR w (.bool (allT 83 ts)))
def funB (t : Tree) : Bool := t.names.all varB && (t.kind == 14 && (t.num == 0 && allT 83 t.kids))
def FunC (t : Tree) : Prop := ∀ {N : Nd} {w : World}, Rd w t N → Str t → Calls Tryz.prog 96 #[.agg (ncs N)] w (PostR w (.bool (funB t)))
def PairC (t : Tree) : Prop := ∀ {N : Nd} {w : World}, Rd w t N → Str t → Calls Tryz.prog 147 #[.agg (ncs N)] w (PostR w (.bool (okT 68 t)))
def BlkC (t : Tree) : Prop := ∀ {N : Nd} {w : World}, Rd w t N → Str t → Calls Tryz.prog 100 #[.agg (ncs N)] w (PostR w (.bool (okT 66 t)))
def OpenC (t : Tree) : Prop := ∀ {N : Nd} {w : World}, Rd w t N → okT 83 t = true → Calls Tryz.prog 98 #[.agg (ncs N)] w (PostR w (.bool (openT t)))
theorem kids_ex {k n : Int} {tx : ByteArray} {ns : List ByteArray} {ks : List Tree} {N : Nd} {w : World} (hr : Rd w (.mk k n tx ns ks) N) (IH : ExpsC ks) (hs : Strs ks) (W : World) (hb : Below w.heap.size w W) :
    Calls Tryz.prog 95 #[.slice N.kids.a N.kids.n N.kids.c] W (PostR W (.bool (allT 65 ks))) := by
  unfold Rd at hr
  obtain ⟨h1, h2, h3, h4, xs, h5, h6⟩ := hr
  exact IH (h5.kept (kept_below hb)) (h6.below hb) hs
theorem kids_st {k n : Int} {tx : ByteArray} {ns : List ByteArray} {ks : List Tree} {N : Nd} {w : World} (hr : Rd w (.mk k n tx ns ks) N) (IH : StmsC ks) (hs : Strs ks) (W : World) (hb : Below w.heap.size w W) :
    Calls Tryz.prog 29 #[.slice N.kids.a N.kids.n N.kids.c] W (PostR W (.bool (allT 83 ks))) := by
  unfold Rd at hr
  obtain ⟨h1, h2, h3, h4, xs, h5, h6⟩ := hr
  exact IH (h5.kept (kept_below hb)) (h6.below hb) hs
/-- A kid, where it lies. -/
structure KidAt (w : World) (b o : Nat) (x : Nd) : Prop where
  lt : b < w.heap.size
  at_ : NdAt w b o x
theorem KidAt.ld {w W : World} {b o : Nat} {x : Nd} (h : KidAt w b o x) (hb : Below w.heap.size w W) : (Ld 27 (.pointer (some ⟨b, o, none⟩))).run Tryz.prog W = .ok (.agg (ncs x)) W := (h.at_.kept (kept_below hb) h.lt).ld
theorem KidAt.kind {w W : World} {b o : Nat} {x : Nd} (h : KidAt w b o x) (hb : Below w.heap.size w W) : W.cell? ⟨b, o, none⟩ = some (.int .i64 x.kind) := (h.at_.kept (kept_below hb) h.lt) 0 _ rfl
theorem KidAt.num {w W : World} {b o : Nat} {x : Nd} (h : KidAt w b o x) (hb : Below w.heap.size w W) : W.cell? ⟨b, o + 1, none⟩ = some (.int .i64 x.num) := (h.at_.kept (kept_below hb) h.lt) 1 _ rfl
theorem KidAt.text {w W : World} {b o : Nat} {x : Nd} (h : KidAt w b o x) (hb : Below w.heap.size w W) : W.cell? ⟨b, o + 2, none⟩ = some (.string x.text) := (h.at_.kept (kept_below hb) h.lt) 2 _ rfl
theorem KidAt.names {w W : World} {b o : Nat} {x : Nd} (h : KidAt w b o x) (hb : Below w.heap.size w W) : W.cell? ⟨b, o + 3, none⟩ = some (.slice x.names.a x.names.n x.names.c) := (h.at_.kept (kept_below hb) h.lt) 3 _ rfl
theorem KidAt.kids {w W : World} {b o : Nat} {x : Nd} (h : KidAt w b o x) (hb : Below w.heap.size w W) : W.cell? ⟨b, o + 4, none⟩ = some (.slice x.kids.a x.kids.n x.kids.c) := (h.at_.kept (kept_below hb) h.lt) 4 _ rfl
theorem kids_1 {k n : Int} {tx : ByteArray} {ns : List ByteArray} {a : Tree} {N : Nd} {w : World} (hr : Rd w (.mk k n tx ns [a]) N) :
    ∃ b o c x, N.kids = ⟨some ⟨b, o, none⟩, 1, c⟩ ∧ 1 ≤ c ∧ c ≤ maxLen ∧ KidAt w b o x ∧ Rd w a x := by
  unfold Rd at hr
  obtain ⟨h1, h2, h3, h4, xs, h5, h6⟩ := hr
  have hl := Rds.len h6
  obtain ⟨b, o, e1, e2, e3, e4, e5⟩ := h5.where (by rw [hl]; simp)
  rw [hl] at e1 e3
  obtain ⟨x, q1, q2⟩ := h6.at (i := 0) rfl
  exact ⟨b, o, _, x, e1, e3, e4, ⟨e2, by have := e5 0 x q1; simpa using this⟩, q2⟩
theorem kids_2 {k n : Int} {tx : ByteArray} {ns : List ByteArray} {a a2 : Tree} {N : Nd} {w : World} (hr : Rd w (.mk k n tx ns [a, a2]) N) :
    ∃ b o c x x2, N.kids = ⟨some ⟨b, o, none⟩, 2, c⟩ ∧ 2 ≤ c ∧ c ≤ maxLen ∧ KidAt w b o x ∧ Rd w a x ∧ KidAt w b (o + 5) x2 ∧ Rd w a2 x2 := by
  unfold Rd at hr
  obtain ⟨h1, h2, h3, h4, xs, h5, h6⟩ := hr
  have hl := Rds.len h6
  obtain ⟨b, o, e1, e2, e3, e4, e5⟩ := h5.where (by rw [hl]; simp)
  rw [hl] at e1 e3
  obtain ⟨x, q1, q2⟩ := h6.at (i := 0) rfl
  obtain ⟨x2, q3, q4⟩ := h6.at (i := 1) rfl
  exact ⟨b, o, _, x, x2, e1, e3, e4, ⟨e2, by have := e5 0 x q1; simpa using this⟩, q2, ⟨e2, by have := e5 1 x2 q3; simpa using this⟩, q4⟩
theorem kids_3 {k n : Int} {tx : ByteArray} {ns : List ByteArray} {a a2 a3 : Tree} {N : Nd} {w : World} (hr : Rd w (.mk k n tx ns [a, a2, a3]) N) :
    ∃ b o c x x2 x3, N.kids = ⟨some ⟨b, o, none⟩, 3, c⟩ ∧ 3 ≤ c ∧ c ≤ maxLen ∧ KidAt w b o x ∧ Rd w a x ∧ KidAt w b (o + 5) x2 ∧ Rd w a2 x2 ∧ KidAt w b (o + 10) x3 ∧ Rd w a3 x3 := by
  unfold Rd at hr
  obtain ⟨h1, h2, h3, h4, xs, h5, h6⟩ := hr
  have hl := Rds.len h6
  obtain ⟨b, o, e1, e2, e3, e4, e5⟩ := h5.where (by rw [hl]; simp)
  rw [hl] at e1 e3
  obtain ⟨x, q1, q2⟩ := h6.at (i := 0) rfl
  obtain ⟨x2, q3, q4⟩ := h6.at (i := 1) rfl
  obtain ⟨x3, q5, q6⟩ := h6.at (i := 2) rfl
  exact ⟨b, o, _, x, x2, x3, e1, e3, e4, ⟨e2, by have := e5 0 x q1; simpa using this⟩, q2, ⟨e2, by have := e5 1 x2 q3; simpa using this⟩, q4, ⟨e2, by have := e5 2 x3 q5; simpa using this⟩, q6⟩
theorem rd_text {w : World} {t : Tree} {x : Nd} (h : Rd w t x) : x.text = t.text := by
  cases t
  unfold Rd at h
  exact h.2.2.1
theorem rd_kind {w : World} {t : Tree} {x : Nd} (h : Rd w t x) : x.kind = t.kind := by
  cases t
  unfold Rd at h
  exact h.1
theorem rd_num {w : World} {t : Tree} {x : Nd} (h : Rd w t x) : x.num = t.num := by
  cases t
  unfold Rd at h
  exact h.2.1
theorem rd_names {w : World} {t : Tree} {x : Nd} (h : Rd w t x) : x.names.n = t.names.length := by
  cases t
  unfold Rd at h
  exact h.2.2.2.1.1
theorem str_text {t : Tree} (h : Str t) : t.text.size ≤ 1048576 := by
  cases t
  unfold Str at h
  exact h.1
theorem kids_tail {k n : Int} {tx : ByteArray} {ns : List ByteArray} {a : Tree} {ks : List Tree} {N : Nd} {w : World} (hr : Rd w (.mk k n tx ns (a :: ks)) N) (IH : StmsC ks) (hs : Strs (a :: ks)) (W : World) (hb : Below w.heap.size w W) {b o m c : Nat} (hk : N.kids = ⟨some ⟨b, o, none⟩, m, c⟩) :
    Calls Tryz.prog 29 #[.slice (some ⟨b, o + 5, none⟩) (m - 1) (c - 1)] W (PostR W (.bool (allT 83 ks))) := by
  unfold Rd at hr
  obtain ⟨h1, h2, h3, h4, xs, h5, h6⟩ := hr
  rw [hk] at h5
  have hl := Rds.len h6
  have h7 := (h5.tail (b := b) (o := o) rfl (n := 1) (by rw [hl]; simp)).kept (kept_below hb)
  have h8 := (h6.drop 1).below hb
  have hn : m = xs.length := h5.1
  have := IH h7 h8 (hs.drop 1)
  rw [hn]
  exact this
end Go.Proofs.YtkknglmpdmhhjaaGreatDoor.Pr
