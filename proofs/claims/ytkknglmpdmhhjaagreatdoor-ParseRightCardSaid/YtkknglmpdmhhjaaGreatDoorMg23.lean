/-
  Texts of this seat in build order: PaList, PaNames.
-/
import Derived.Test.YtkknglmpdmhhjaaGreatDoorMg22
/-
  list, over whatever parses an element.
-/
namespace Go.Proofs.YtkknglmpdmhhjaaGreatDoor.Pa
open Go Go.RowKit Go.Proofs.YtkknglmpdmhhjaaGreatDoor.Lx Go.Proofs.YtkknglmpdmhhjaaGreatDoor.Uni
set_option linter.unusedVariables false
set_option linter.unusedSimpArgs false
attribute [local go_sem ↓] ldK stK alK bdK bsK ldN stN alN bdN bsN
attribute [local irreducible] kcs ncs ncells
attribute [local go_sem] run_alK run_bdK0 run_bdKs run_bdKn run_bdKe run_bsK run_fdK0 run_fdK1 run_fdK2 run_fdK3 run_fdN4 run_alN run_stNg run_ldNg run_bdN0 run_bdN04 run_bdN02 run_bdN01 run_bdN024 run_bdN03 run_bdN0234 run_bsN1 run_bsN2 run_bsN3

/-- Where the tokens end, read from memory. -/
def lenOf (g : Nat) (w : World) : Nat := match w.cell? ⟨g, 0, none⟩ with
  | some (.slice _ n _) => n
  | _ => 0
theorem At.len {g d : Nat} {s : PS} {w : World} (h : At g d s w) : lenOf g w = s.left.length := by
  obtain ⟨b, o, c, c0, -⟩ := h.cells
  unfold lenOf
  rw [c0]
theorem takes_t {g d : Nat} {s : PS} {w : World} (h : At g d s w) {x : ByteArray} (hk : seesF x s = true) : Calls Tryz.prog 86 #[.pointer (some ⟨g, 0, none⟩), .string x] w (Post g d w (.bool true) s.take) := by
  have := takes_any h x
  unfold takesF at this
  rw [hk] at this
  exact this
theorem takes_f {g d : Nat} {s : PS} {w : World} (h : At g d s w) {x : ByteArray} (hk : seesF x s = false) : Calls Tryz.prog 86 #[.pointer (some ⟨g, 0, none⟩), .string x] w (Post g d w (.bool false) s) := by
  have := takes_any h x
  unfold takesF at this
  rw [hk] at this
  exact this
theorem sees_t {g d : Nat} {s : PS} {w : World} (h : At g d s w) {x : ByteArray} (hk : seesF x s = true) : Calls Tryz.prog 84 #[.pointer (some ⟨g, 0, none⟩), .string x] w (PostR w (.bool true)) := by
  have := sees_any h x
  rw [hk] at this
  exact this
theorem sees_f {g d : Nat} {s : PS} {w : World} (h : At g d s w) {x : ByteArray} (hk : seesF x s = false) : Calls Tryz.prog 84 #[.pointer (some ⟨g, 0, none⟩), .string x] w (PostR w (.bool false)) := by
  have := sees_any h x
  rw [hk] at this
  exact this

/-- A list of trees that grows: its block is none of the trees'. -/
structure Grow (w0 W : World) (ts : List Tree) (xs : List Nd) (v : Value) : Prop where
  own : W.ownsRow w0.heap.size 27 5 v ts.length (ncells xs)
  rp : Reps (fun b => w0.heap.size ≤ b ∧ some b ≠ v.ownBlock) W ts xs
theorem Grow.nil (w0 W : World) : Grow w0 W [] [] (.slice none 0 0) := ⟨by rw [ncells_nil]; exact World.ownsRow_nil _ _ _ _, by unfold Reps; trivial⟩
theorem Grow.frame {g : Nat} {w0 W w' : World} {ts : List Tree} {xs : List Nd} {v : Value} (h : Grow w0 W ts xs v) (hg : GB g W w') (hl : g < w0.heap.size) : Grow w0 w' ts xs v :=
  ⟨h.own.kept hg (by
    cases hv : v.ownBlock with
    | none => exact .inl rfl
    | some b => right; have := (h.own.lt b hv).1; intro e; cases e; omega),
   Reps.keep (fun b hb hS => ⟨hS, hg.block b hb (by intro e; cases e; have := hS.1; omega)⟩) _ _ h.rp⟩
theorem Grow.alloc {w0 W : World} {ts : List Tree} {xs : List Nd} {v : Value} (h : Grow w0 W ts xs v) (o : Obj) : Grow w0 (W.alloc o) ts xs v :=
  ⟨h.own.alloc o, Reps.keep (fun b hb hS => ⟨hS, heap_alloc_old _ _ hb⟩) _ _ h.rp⟩
/-- A tree that was made behind the list, appended. -/
theorem Grow.snoc {w0 W w' : World} {ts : List Tree} {xs : List Nd} {v v' : Value} {T : Tree} {N : Nd} (h : Grow w0 W ts xs v) (hT : Rep (fun b => w0.heap.size ≤ b ∧ some b ≠ v.ownBlock) W T N) (hown : w'.ownsRow w0.heap.size 27 5 v' (ts.length + 1) (ncells xs ++ (ncs N).toList)) (hg : W.grownBy w' v.ownBlock) (hat : v'.ownBlock = v.ownBlock ∨ v'.ownBlock = some W.heap.size) : Grow w0 w' (ts ++ [T]) (xs ++ [N]) v' := by
  have hk : ∀ b, b < W.heap.size → (w0.heap.size ≤ b ∧ some b ≠ v.ownBlock) → (w0.heap.size ≤ b ∧ some b ≠ v'.ownBlock) ∧ w'.heap[b]? = W.heap[b]? := fun b hb hS => by
    refine ⟨⟨hS.1, ?_⟩, hg.block b hb hS.2⟩
    rcases hat with e | e
    · rw [e]; exact hS.2
    · rw [e]; intro h; cases h; omega
  refine ⟨?_, Reps.snoc (Rep.keep hk _ _ hT) (Reps.keep hk _ _ h.rp)⟩
  rw [ncells_snoc, List.length_append]
  exact hown
/-- What was made behind a list has none of its blocks. -/
theorem Grow.fresh {w0 W W2 : World} {ts : List Tree} {xs : List Nd} {v : Value} {T : Tree} {N : Nd} (h : Grow w0 W ts xs v) (hs : w0.heap.size ≤ W.heap.size) (hr : Rep (fun b => False ∨ W.heap.size ≤ b) W2 T N) : Rep (fun b => w0.heap.size ≤ b ∧ some b ≠ v.ownBlock) W2 T N :=
  Rep.keep (fun b hb hS => by
    rcases hS with hS | hS
    · exact hS.elim
    · refine ⟨⟨by omega, fun e => ?_⟩, rfl⟩
      have := (h.own.lt b e.symm).2
      omega) _ _ hr
theorem own_base0 {w : World} {b e size n : Nat} {v : Value} {xs : List Value} (h : w.ownsRow b e size v n xs) : w.ownsRow 0 e size v n xs := own_base h (Nat.zero_le _)
/-- The list, as the kids of a node. -/
theorem Grow.row {w0 W : World} {ts : List Tree} {xs : List Nd} {v : Value} (h : Grow w0 W ts xs v) : ∃ s : Sl, v = s.v ∧ Row (fun b => w0.heap.size ≤ b) W 27 5 s ts.length (ncells xs) ∧ Reps (fun b => w0.heap.size ≤ b) W ts xs := by
  have hb : ∀ b, v.ownBlock = some b → w0.heap.size ≤ b := fun b hb => (h.own.lt b hb).1
  have h0 := own_base0 h.own
  have hr := Reps.keep (w := W) (w' := W) (S' := fun b => w0.heap.size ≤ b) (fun b hb hS => ⟨hS.1, rfl⟩) _ _ h.rp
  rcases h.own.2 with ⟨hv, hn⟩ | ⟨g, cap, cur, hv, rest⟩
  · refine ⟨nilSl, hv, ⟨?_, fun b hb' => by cases hb'⟩, hr⟩
    rw [hv] at h0
    exact h0
  · refine ⟨⟨some ⟨g, 0, none⟩, ts.length, cap⟩, hv, ⟨?_, fun b hb' => hb b ?_⟩, hr⟩
    · rw [hv] at h0
      exact h0
    · rw [hv]
      exact hb'
theorem GB.grown {g : Nat} {w0 W w' : World} {row : Option Nat} (h : GB g w0 W) (k : W.grownBy w' row) (hr : ∀ b, row = some b → w0.heap.size ≤ b) : GB g w0 w' :=
  ⟨k.os.trans h.os, k.tape.trans h.tape, k.output.trans h.output, Nat.le_trans h.size k.size, fun i hi hn => (k.block i (Nat.lt_of_lt_of_le hi h.size) (fun e => by have := hr i e.symm; omega)).trans (h.block i hi hn)⟩
theorem At.grown {g d : Nat} {s : PS} {w0 W w' : World} {et size n : Nat} {v : Value} {xs : List Value} (h : At g d s W) (k : W.grownBy w' v.ownBlock) (het : et ≠ 79) (hv : W.ownsRow w0.heap.size et size v n xs) (hl : g < w0.heap.size) : At g d s w' := by
  obtain ⟨b, o, c, hO⟩ := h.opn
  have hb : ∀ b', v.ownBlock = some b' → ∃ cur, W.heap[b']? = some (.cells cur et (0, 0)) := fun b' hb' => by
    rcases hv.2 with ⟨h1, -⟩ | ⟨g', cap, cur, h1, -, h2, -⟩
    · rw [h1] at hb'; cases hb'
    · rw [h1] at hb'; cases hb'; exact ⟨cur, h2⟩
  have hgv : some g ≠ v.ownBlock := fun e => by have := (hv.lt g e.symm).1; omega
  obtain ⟨cur, hcur⟩ := hO.tk
  have hbv : some b ≠ v.ownBlock := fun e => by
    obtain ⟨cur', h'⟩ := hb b e.symm
    rw [h'] at hcur
    simp only [Option.some.injEq, Obj.cells.injEq] at hcur
    exact het hcur.2.1
  obtain ⟨h0, v2, h1, h2⟩ := h
  refine ⟨h0, v2, (k.block g (lt_of_block h1) hgv).trans h1, h2.keep fun b2 hb2 _ hc => k.block b2 hb2 fun e => ?_⟩
  obtain ⟨c2, hc2⟩ := hc
  obtain ⟨cur', h'⟩ := hb b2 e.symm
  rw [h'] at hc2
  simp only [Option.some.injEq, Obj.cells.injEq] at hc2
  exact het hc2.2.1
theorem new_cellsN (w : World) (t : Nd) : ∀ j v, (ncs t).toList[j]? = some v → (w.alloc (.cells (ncells [t]).toArray 27)).cell? ((⟨w.heap.size, 0, none⟩ : Addr).add j) = some v := fun j v hv => by
  have ha : (⟨w.heap.size, 0, none⟩ : Addr).add j = ⟨w.heap.size, j, none⟩ := by unfold Addr.add; split <;> simp_all
  rw [ha, (Blk.new w (ncells [t]).toArray _).cell]
  have e : (ncells [t]).toArray = ncs t := by unfold ncells; simp
  rw [e]
  simpa using hv

theorem moreF_nil {T : Type} {el : PS → T × PS} {f : Nat} {s : PS} (h : seesF ⟨#[44]⟩ s = false) : moreF el f s = ([], s) := by
  cases f with
  | zero => rfl
  | succ f => unfold moreF; rw [h]; rfl
theorem moreF_cons {T : Type} {el : PS → T × PS} {f : Nat} {s : PS} (h : seesF ⟨#[44]⟩ s = true) : moreF el (f + 1) s = ((el s.take).1 :: (moreF el f (el s.take).2).1, (moreF el f (el s.take).2).2) := by
  conv => lhs; unfold moreF
  rw [h]; rfl
/-- What a method leaves that gives a list of trees. -/
def PostL (g d : Nat) (w : World) (R : List Tree × PS) (e : Ending) (w' : World) : Prop :=
  ∃ v xs, e = .returned v ∧ Grow w w' R.1 xs v ∧ R.1.length ≤ 100001 ∧ At g d R.2 w' ∧ GB g w w'

/-- Where a list's loop stands. -/
structure LI (el : PS → Tree × PS) (g d : Nat) (w wr : World) (R : List Tree × PS) (ts : List Tree) (xs : List Nd) (s : PS) (f : Nat) (v : Value) : Prop where
  at_ : At g d s wr
  gx : Gx g wr
  gb : GB g w wr
  gr : Grow w wr ts xs v
  fu : s.left.length ≤ f
  len : ts.length + s.left.length ≤ 100001
  eq : R = (ts ++ (moreF el f s).1, (moreF el f s).2)

set_option maxRecDepth 100000 in
set_option maxHeartbeats 4000000 in
theorem list_any {F d : Nat} {el : PS → Tree × PS} (hF : ∀ (args : Array Value) (w : World), (callFunc F args).run Tryz.prog w = .ok (.enter F args) w)
    (hel : ∀ {g : Nat} {s : PS} {w : World}, At g d s w → Gx g w → Calls Tryz.prog F #[.pointer (some ⟨g, 0, none⟩)] w (PostN g d w (el s))) (had : ∀ s, Adv s (el s).2) (x : ByteArray)
    {g : Nat} {s : PS} {w : World} (h : At g d s w) (hX : Gx g w) :
    Calls Tryz.prog 269 #[.pointer (some ⟨g, 0, none⟩), .string x, .func (.func F) #[.pointer (some ⟨g, 0, none⟩)] #[]] w (PostL g d w (listF x el s)) := by
  obtain ⟨i0, hi, hz0, hz1, hz2⟩ := info_parts infoN3
  unfold listF
  cases hk : seesF x s with
  | true =>
    have ht := takes_t h hk
    have hlen := (h.ok.take (sees_kind hk)).1.len
    clear h hX hel
    go_enter Tryz.func269, Tryz.ntmps269
    go_wp2_with (go_at_call 86; (with_reducible refine ht.mono ?_); rintro e w1 ⟨rfl, ha, hg⟩; have HA := Lib.hid ha; have HG := Lib.hid hg; clear ha hg)
    go_ret
    exact ⟨_, [], rfl, Grow.nil _ _, by simp, HA.out, HG.out⟩
  | false =>
    have ht := takes_f h hk
    have hgl := h.lt
    have hok := h.ok
    obtain ⟨X, hXe⟩ : ∃ X, el s = X := ⟨_, rfl⟩
    have HOK := Lib.hid hok
    have HXE := Lib.hid hXe
    have HX := Lib.hid hX
    have HK := Lib.hid hk
    have HADV := Lib.hid had
    clear h hok hk had
    go_enter Tryz.func269, Tryz.ntmps269
    go_wp2_with (first | (go_at_call 86; (with_reducible refine ht.mono ?_); rintro e w1 ⟨rfl, ha, hg⟩; have h2 := hel ha (HX.out.gb hg); have HA := Lib.hid ha; have HG := Lib.hid hg; clear ha hg))
    refine h2.mono ?_
    rintro e w2 ⟨N, rfl, hr2, ha2, hg2⟩
    rw [HXE.out] at hr2 ha2
    have HGG := Lib.hid (HG.out.trans hg2)
    have hsz := HG.out.size
    have HA2 := Lib.hid ha2
    have HR2 := Lib.hid hr2
    have HS2 := Lib.hid hg2.size
    clear ht h2 hr2 ha2 hg2
    have hst : LI el g d w (w2.alloc (.cells (ncells [N]).toArray 27)) (X.1 :: (moreF el X.2.left.length X.2).1, (moreF el X.2.left.length X.2).2) [X.1] [N] X.2 X.2.left.length (.slice (some ⟨w2.heap.size, 0, none⟩) 1 1) := by
      have hl2 := HADV.out s HOK.out
      rw [HXE.out] at hl2
      have hl3 := HOK.out.len
      have hrow := Row.new (S := fun _ => True) w2 [N] 1 rfl (by unfold maxLen; omega) trivial
      have hS2 := HS2.out
      refine ⟨HA2.out.alloc _, (HX.out.gb HGG.out).gb (GB.of bel1), HGG.out.trans (GB.of bel1), ⟨?_, ?_⟩, Nat.le_refl _, by simp; omega, rfl⟩
      · obtain ⟨⟨r1, r2⟩, -⟩ := hrow
        refine ⟨r1, ?_⟩
        rcases r2 with ⟨r2, -⟩ | ⟨gg, cap, cur, r2, r3, r4⟩
        · cases r2
        · right
          cases r2
          exact ⟨_, _, cur, rfl, by omega, r4⟩
      · have hR : Rep (fun b => b < w2.heap.size ∧ w.heap.size ≤ b) w2 X.1 N := Rep.keep (fun b hb hS => ⟨⟨hb, hS.elim (fun h => h.elim) (fun h => by omega)⟩, rfl⟩) _ _ HR2.out
        refine Reps.keep (w := w2) (S := fun b => b < w2.heap.size ∧ w.heap.size ≤ b) (fun b hb hS => ⟨⟨hS.2, ?_⟩, heap_alloc_old _ _ hb⟩) _ _ (by unfold Reps; exact ⟨hR, by unfold Reps; trivial⟩)
        have := hS.1
        simp [Value.ownBlock]; omega
    have HST := Lib.hid hst
    clear hst
    go_wp2
    go_loopw [7] (fun v wr => ∃ ts xs s f, LI el g d w wr (X.1 :: (moreF el X.2.left.length X.2).1, (moreF el X.2.left.length X.2).2) ts xs s f v) (fun _ wr => lenOf g wr)
    case atStart => exact ⟨_, _, _, _, HST.out⟩
    case round =>
      obtain ⟨ts, xs, s', f, hI⟩ := hrel
      have hlen := hI.at_.len
      obtain ⟨R, hR⟩ : ∃ R, R = (X.1 :: (moreF el X.2.left.length X.2).1, (moreF el X.2.left.length X.2).2) := ⟨_, rfl⟩
      rw [← hR] at hI
      have HRR := Lib.hid hR
      clear hR
      cases hk : seesF ⟨#[44]⟩ s' with
      | false =>
        have ht := takes_f hI.at_ hk
        have he := hI.eq
        rw [moreF_nil hk, List.append_nil] at he
        have HI := Lib.hid hI
        have HE := Lib.hid he
        clear hk hI he
        go_wp2_with (first | (go_at_call 86; (with_reducible refine ht.mono ?_); rintro e w3 ⟨rfl, ha3, hg3⟩; have h4 := needs_any ha3 x; have HG3 := Lib.hid hg3; clear ha3 hg3) | (go_at_call 93; (with_reducible refine h4.mono ?_); rintro e w4 ⟨rfl, ha4, hg4⟩; have HA4 := Lib.hid ha4; have HG4 := Lib.hid hg4; clear ha4 hg4))
        go_ret
        have hadv := needs_adv x s' HI.out.at_.ok
        have hl := HI.out.len
        have e2 : (X.1 :: (moreF el X.2.left.length X.2).1, needsF x (moreF el X.2.left.length X.2).2) = (ts, needsF x s') := by
          have h1 := HRR.out.symm.trans HE.out
          rw [Prod.mk.injEq] at h1
          rw [h1.1, h1.2]
        rw [e2]
        exact ⟨_, xs, rfl, (HI.out.gr.frame HG3.out hgl).frame HG4.out hgl, by simp only; have := HI.out.at_.ok.pos; omega, HA4.out, (HI.out.gb.trans HG3.out).trans HG4.out⟩
      | true =>
        have ht := takes_t hI.at_ hk
        obtain ⟨k1, k2⟩ := hI.at_.ok.take (sees_kind hk)
        have hfu := hI.fu
        obtain ⟨f', rfl⟩ : ∃ f', f = f' + 1 := ⟨f - 1, by omega⟩
        have he := hI.eq
        obtain ⟨Y, hY⟩ : ∃ Y, el s'.take = Y := ⟨_, rfl⟩
        rw [moreF_cons hk, hY] at he
        have hadv := HADV.out s'.take k1
        rw [hY] at hadv
        have HI := Lib.hid hI
        have HE := Lib.hid he
        have HY := Lib.hid hY
        have HV := Lib.hid hadv
        have HF := Lib.hid hfu
        have HK2 := Lib.hid k2
        have hn1 : ts.length + 1 ≤ 200000 := by have := hI.len; omega
        clear hk hI he hY hadv hfu k1 k2
        go_wp2_with (go_at_call 86; (with_reducible refine ht.mono ?_); rintro e w3 ⟨rfl, ha3, hg3⟩; have h4 := hel ha3 (HI.out.gx.gb hg3); have HG3 := Lib.hid hg3; clear ha3 hg3)
        refine h4.mono ?_
        rintro e w4 ⟨N4, rfl, hr4, ha4, hg4⟩
        rw [HY.out] at hr4 ha4
        have hgr := (HI.out.gr.frame HG3.out hgl).frame hg4 hgl
        have hgb4 := (HI.out.gb.trans HG3.out).trans hg4
        have hs3 : w.heap.size ≤ w3.heap.size := Nat.le_trans HI.out.gb.size HG3.out.size
        have hs4 : w.heap.size ≤ w4.heap.size := Nat.le_trans hs3 hg4.size
        have hgr3 := HI.out.gr.frame HG3.out hgl
        have hrT := hgr3.fresh hs3 hr4
        have hown := (hgr.alloc (.cells (ncells [N4]).toArray 27)).own
        have HT := Lib.hid (Rep.keep (w' := w4.alloc (.cells (ncells [N4]).toArray 27)) (fun b hb hS => ⟨hS, heap_alloc_old _ _ hb⟩) _ _ hrT)
        have HGR := Lib.hid (hgr.alloc (.cells (ncells [N4]).toArray 27))
        have HA4 := Lib.hid (ha4.alloc (.cells (ncells [N4]).toArray 27))
        have HG4 := Lib.hid (hgb4.trans (GB.of (bel1 (o := .cells (ncells [N4]).toArray 27))))
        clear hr4 ha4 hg4 hgr hgb4 hgr3 hrT ht h4
        go_wp2_with (at_builtin; refine wpList_append_own_at _ rfl _ _ 25 rfl w.heap.size 27 i0 (.agg (ncs zeroN)) 5 80 Tryz.underlying25 hi hz0 hz1 hz2 zeroN_cells (by decide) _ _ _ rfl hown ⟨w4.heap.size, 0, none⟩ 1 1 (ncs N4).toList rfl (ncs_list N4) (new_cellsN w4 N4) (ncs_one' N4) (by unfold maxLen; omega) (by omega) (by simp; omega) ?_; intro v5 w5 hown5 hgrow5 _ hat5; refine Hid.out ?_)
        refine Lib.hid ?_
        have hgr5 := HGR.out.snoc HT.out hown5 hgrow5 hat5
        have ha5 := HA4.out.grown hgrow5 (by decide) HGR.out.own hgl
        have hgb5 := GB.grown HG4.out hgrow5 (fun b hb => (HGR.out.own.lt b hb).1)
        have HGR5 := Lib.hid hgr5
        have HA5 := Lib.hid ha5
        have HGB5 := Lib.hid hgb5
        clear hown5 hgrow5 hgr5 ha5 hgb5 hown hat5
        go_wp2
        go_roundw
        case rel =>
          refine ⟨ts ++ [Y.1], xs ++ [N4], Y.2, f', HA5.out, HX.out.gb HGB5.out, HGB5.out, HGR5.out, ?_, ?_, ?_⟩
          · have := HV.out; have := HF.out; have := HK2.out; omega
          · have := HV.out; have := HI.out.len; have := HK2.out; simp; omega
          · rw [← HRR.out, HE.out]; simp
        case measure =>
          rw [HA5.out.len, hlen]
          have := HV.out; have := HK2.out; omega
end Go.Proofs.YtkknglmpdmhhjaaGreatDoor.Pa

/-
  list, over names.
-/
namespace Go.Proofs.YtkknglmpdmhhjaaGreatDoor.Pa
open Go Go.RowKit Go.Proofs.YtkknglmpdmhhjaaGreatDoor.Lx Go.Proofs.YtkknglmpdmhhjaaGreatDoor.Uni
set_option linter.unusedVariables false
set_option linter.unusedSimpArgs false
attribute [local go_sem ↓] ldK stK alK bdK bsK ldN stN alN bdN bsN
attribute [local irreducible] kcs ncs ncells
attribute [local go_sem] run_alK run_bdK0 run_bdKs run_bdKn run_bdKe run_bsK run_fdK0 run_fdK1 run_fdK2 run_fdK3 run_fdN4 run_alN run_stNg run_ldNg run_bdN0 run_bdN04 run_bdN02 run_bdN01 run_bdN024 run_bdN03 run_bdN0234 run_bsN1 run_bsN2 run_bsN3

/-- A list of texts that grows. -/
structure GrowS (w0 W : World) (ts : List ByteArray) (v : Value) : Prop where
  own : W.ownsRow w0.heap.size 9 1 v ts.length (ts.map Value.string)
theorem GrowS.nil (w0 W : World) : GrowS w0 W [] (.slice none 0 0) := ⟨World.ownsRow_nil _ _ _ _⟩
theorem GrowS.frame {g : Nat} {w0 W w' : World} {ts : List ByteArray} {v : Value} (h : GrowS w0 W ts v) (hg : GB g W w') (hl : g < w0.heap.size) : GrowS w0 w' ts v :=
  ⟨h.own.kept hg (by
    cases hv : v.ownBlock with
    | none => exact .inl rfl
    | some b => right; have := (h.own.lt b hv).1; intro e; cases e; omega)⟩
theorem GrowS.alloc {w0 W : World} {ts : List ByteArray} {v : Value} (h : GrowS w0 W ts v) (o : Obj) : GrowS w0 (W.alloc o) ts v := ⟨h.own.alloc o⟩
theorem GrowS.snoc {w0 w' : World} {ts : List ByteArray} {v' : Value} {T : ByteArray} (hown : w'.ownsRow w0.heap.size 9 1 v' (ts.length + 1) (ts.map Value.string ++ [.string T])) : GrowS w0 w' (ts ++ [T]) v' := by
  refine ⟨?_⟩
  rw [List.map_append, List.length_append]
  exact hown
theorem GrowS.row {w0 W : World} {ts : List ByteArray} {v : Value} (h : GrowS w0 W ts v) : ∃ s : Sl, v = s.v ∧ Row (fun b => w0.heap.size ≤ b) W 9 1 s ts.length (ts.map Value.string) := by
  have hb : ∀ b, v.ownBlock = some b → w0.heap.size ≤ b := fun b hb => (h.own.lt b hb).1
  have h0 := own_base0 h.own
  rcases h.own.2 with ⟨hv, hn⟩ | ⟨g, cap, cur, hv, rest⟩
  · refine ⟨nilSl, hv, ⟨?_, fun b hb' => by cases hb'⟩⟩
    rw [hv] at h0
    exact h0
  · refine ⟨⟨some ⟨g, 0, none⟩, ts.length, cap⟩, hv, ⟨?_, fun b hb' => hb b ?_⟩⟩
    · rw [hv] at h0
      exact h0
    · rw [hv]
      exact hb'
theorem infoS3 : (Tryz.prog.info? 9).map (fun i => (i.zero, i.size, i.bytes)) = some (some (.string noS), 1, 16) := by kernel_rfl
def BsS (n : Nat) (ps : Array (Nat × Value)) : Sem Value := Instr.buildSlice 24 n ps
theorem bsS (n : Nat) (ps : Array (Nat × Value)) : Instr.buildSlice 24 n ps = BsS n ps := (rfl)
theorem run_bsS1 (w : World) (t : ByteArray) : (BsS 1 #[(0, .string t)]).run Tryz.prog w = .ok (.slice (some ⟨w.heap.size, 0, none⟩) 1 1) (w.alloc (.cells #[.string t] 9)) := by
  obtain ⟨i, hi, hz, hs, hb⟩ := info_parts infoS3
  exact run_buildSlice w 24 9 1 _ #[.string t] i (.string noS) Tryz.underlying24 hi hz (by rw [hs]; decide) (by rw [hs]; decide) (by rw [hs]; have h := Go.Great.fill_whole (s := 1) (by decide) [.string t] ((Array.range (1 * 1)).map ((Value.string noS).cells[· % (Value.string noS).cells.size]!)) (fun v hv => by rw [List.mem_singleton.1 hv]; rfl) (by simp); simpa [Value.cells] using h)
attribute [local go_sem ↓] bsS
attribute [local go_sem] run_bsS1
/-- What list gives of names. -/
def PostLS (g d : Nat) (w : World) (R : List ByteArray × PS) (e : Ending) (w' : World) : Prop :=
  ∃ v, e = .returned v ∧ GrowS w w' R.1 v ∧ R.1.length ≤ 100001 ∧ At g d R.2 w' ∧ GB g w w'
/-- Where a list's loop stands. -/
structure LIS (el : PS → ByteArray × PS) (g d : Nat) (w wr : World) (R : List ByteArray × PS) (ts : List ByteArray) (s : PS) (f : Nat) (v : Value) : Prop where
  at_ : At g d s wr
  gx : Gx g wr
  gb : GB g w wr
  gr : GrowS w wr ts v
  fu : s.left.length ≤ f
  len : ts.length + s.left.length ≤ 100001
  eq : R = (ts ++ (moreF el f s).1, (moreF el f s).2)

set_option maxRecDepth 100000 in
set_option maxHeartbeats 4000000 in
theorem names_any {d : Nat} (x : ByteArray)
    {g : Nat} {s : PS} {w : World} (h : At g d s w) (hX : Gx g w) :
    Calls Tryz.prog 140 #[.pointer (some ⟨g, 0, none⟩), .string x, .func (.func 88) #[.pointer (some ⟨g, 0, none⟩)] #[]] w (PostLS g d w (listF x nameF s)) := by
  obtain ⟨i0, hi, hz0, hz1, hz2⟩ := info_parts infoS3
  have hel : ∀ {g : Nat} {s : PS} {w : World}, At g d s w → Gx g w → Calls Tryz.prog 88 #[.pointer (some ⟨g, 0, none⟩)] w (Post g d w (.string (nameF s).1) (nameF s).2) := fun h _ => name_any h
  have had := name_adv
  unfold listF
  cases hk : seesF x s with
  | true =>
    have ht := takes_t h hk
    have hlen := (h.ok.take (sees_kind hk)).1.len
    clear h hX hel had
    go_enter Tryz.func140, Tryz.ntmps140
    go_wp2_with (go_at_call 86; (with_reducible refine ht.mono ?_); rintro e w1 ⟨rfl, ha, hg⟩; have HA := Lib.hid ha; have HG := Lib.hid hg; clear ha hg)
    go_ret
    exact ⟨_, rfl, GrowS.nil _ _, by simp, HA.out, HG.out⟩
  | false =>
    have ht := takes_f h hk
    have hgl := h.lt
    have hok := h.ok
    obtain ⟨X, hXe⟩ : ∃ X, nameF s = X := ⟨_, rfl⟩
    have HOK := Lib.hid hok
    have HXE := Lib.hid hXe
    have HX := Lib.hid hX
    have HK := Lib.hid hk
    have HADV := Lib.hid had
    clear h hok hk had
    go_enter Tryz.func140, Tryz.ntmps140
    go_wp2_with (first | (go_at_call 86; (with_reducible refine ht.mono ?_); rintro e w1 ⟨rfl, ha, hg⟩; have h2 := hel ha (HX.out.gb hg); have HA := Lib.hid ha; have HG := Lib.hid hg; clear ha hg))
    go_wp2_with (go_at_call 88; (with_reducible refine h2.mono ?_); rintro e w2 ⟨rfl, ha2, hg2⟩; refine Hid.out ?_)
    refine Lib.hid ?_
    rw [HXE.out] at ha2
    have HGG := Lib.hid (HG.out.trans hg2)
    have hsz := HG.out.size
    have HA2 := Lib.hid ha2
    have HS2 := Lib.hid hg2.size
    clear ht h2 ha2 hg2
    have hst : LIS nameF g d w (w2.alloc (.cells #[.string X.1] 9)) (X.1 :: (moreF nameF X.2.left.length X.2).1, (moreF nameF X.2.left.length X.2).2) [X.1] X.2 X.2.left.length (.slice (some ⟨w2.heap.size, 0, none⟩) 1 1) := by
      have hl2 := HADV.out s HOK.out
      rw [HXE.out] at hl2
      have hl3 := HOK.out.len
      have hS2 := HS2.out
      refine ⟨HA2.out.alloc _, (HX.out.gb HGG.out).gb (GB.of bel1), HGG.out.trans (GB.of bel1), ⟨?_⟩, Nat.le_refl _, by simp; omega, rfl⟩
      exact ⟨rfl, .inr ⟨w2.heap.size, 1, #[.string X.1], rfl, by omega, heap_alloc_new w2 _, Nat.le_refl _, by unfold maxLen; omega, rfl, rfl⟩⟩
    have HST := Lib.hid hst
    clear hst
    go_wp2
    go_loopw [7] (fun v wr => ∃ ts s f, LIS nameF g d w wr (X.1 :: (moreF nameF X.2.left.length X.2).1, (moreF nameF X.2.left.length X.2).2) ts s f v) (fun _ wr => lenOf g wr)
    case atStart => exact ⟨_, _, _, HST.out⟩
    case round =>
      obtain ⟨ts, s', f, hI⟩ := hrel
      have hlen := hI.at_.len
      obtain ⟨R, hR⟩ : ∃ R, R = (X.1 :: (moreF nameF X.2.left.length X.2).1, (moreF nameF X.2.left.length X.2).2) := ⟨_, rfl⟩
      rw [← hR] at hI
      have HRR := Lib.hid hR
      clear hR
      cases hk : seesF ⟨#[44]⟩ s' with
      | false =>
        have ht := takes_f hI.at_ hk
        have he := hI.eq
        rw [moreF_nil hk, List.append_nil] at he
        have HI := Lib.hid hI
        have HE := Lib.hid he
        clear hk hI he
        go_wp2_with (first | (go_at_call 86; (with_reducible refine ht.mono ?_); rintro e w3 ⟨rfl, ha3, hg3⟩; have h4 := needs_any ha3 x; have HG3 := Lib.hid hg3; clear ha3 hg3) | (go_at_call 93; (with_reducible refine h4.mono ?_); rintro e w4 ⟨rfl, ha4, hg4⟩; have HA4 := Lib.hid ha4; have HG4 := Lib.hid hg4; clear ha4 hg4))
        go_ret
        have hadv := needs_adv x s' HI.out.at_.ok
        have hl := HI.out.len
        have e2 : (X.1 :: (moreF nameF X.2.left.length X.2).1, needsF x (moreF nameF X.2.left.length X.2).2) = (ts, needsF x s') := by
          have h1 := HRR.out.symm.trans HE.out
          rw [Prod.mk.injEq] at h1
          rw [h1.1, h1.2]
        rw [e2]
        exact ⟨_, rfl, (HI.out.gr.frame HG3.out hgl).frame HG4.out hgl, by simp only; have := HI.out.at_.ok.pos; omega, HA4.out, (HI.out.gb.trans HG3.out).trans HG4.out⟩
      | true =>
        have ht := takes_t hI.at_ hk
        obtain ⟨k1, k2⟩ := hI.at_.ok.take (sees_kind hk)
        have hfu := hI.fu
        obtain ⟨f', rfl⟩ : ∃ f', f = f' + 1 := ⟨f - 1, by omega⟩
        have he := hI.eq
        obtain ⟨Y, hY⟩ : ∃ Y, nameF s'.take = Y := ⟨_, rfl⟩
        rw [moreF_cons hk, hY] at he
        have hadv := HADV.out s'.take k1
        rw [hY] at hadv
        have HI := Lib.hid hI
        have HE := Lib.hid he
        have HY := Lib.hid hY
        have HV := Lib.hid hadv
        have HF := Lib.hid hfu
        have HK2 := Lib.hid k2
        have hn1 : ts.length + 1 ≤ 200000 := by have := hI.len; omega
        clear hk hI he hY hadv hfu k1 k2
        go_wp2_with (go_at_call 86; (with_reducible refine ht.mono ?_); rintro e w3 ⟨rfl, ha3, hg3⟩; have h4 := hel ha3 (HI.out.gx.gb hg3); have HG3 := Lib.hid hg3; clear ha3 hg3)
        go_wp2_with (go_at_call 88; (with_reducible refine h4.mono ?_); rintro e w4 ⟨rfl, ha4, hg4⟩; refine Hid.out ?_)
        refine Lib.hid ?_
        rw [HY.out] at ha4
        try rw [HY.out]
        have hgr := (HI.out.gr.frame HG3.out hgl).frame hg4 hgl
        have hgb4 := (HI.out.gb.trans HG3.out).trans hg4
        have hs3 : w.heap.size ≤ w3.heap.size := Nat.le_trans HI.out.gb.size HG3.out.size
        have hs4 : w.heap.size ≤ w4.heap.size := Nat.le_trans hs3 hg4.size
        have hown := (hgr.alloc (.cells #[.string Y.1] 9)).own
        have HGR := Lib.hid (hgr.alloc (.cells #[.string Y.1] 9))
        have HA4 := Lib.hid (ha4.alloc (.cells #[.string Y.1] 9))
        have HG4 := Lib.hid (hgb4.trans (GB.of (bel1 (o := .cells #[.string Y.1] 9))))
        clear ha4 hg4 hgr hgb4 ht h4
        go_wp2_with (at_builtin; refine wpList_append_own_at _ rfl _ _ 24 rfl w.heap.size 9 i0 (.string noS) 1 16 Tryz.underlying24 hi hz0 hz1 hz2 rfl (by decide) _ _ _ rfl hown ⟨w4.heap.size, 0, none⟩ 1 1 [.string Y.1] rfl rfl (cell_one_new w4 _ _) (by intro u hu; rw [List.mem_singleton.1 hu]; rfl) (by unfold maxLen; omega) (by omega) (by simp; omega) ?_; intro v5 w5 hown5 hgrow5 _ hat5; refine Hid.out ?_)
        refine Lib.hid ?_
        have hgr5 := GrowS.snoc hown5
        have ha5 := HA4.out.grown hgrow5 (by decide) HGR.out.own hgl
        have hgb5 := GB.grown HG4.out hgrow5 (fun b hb => (HGR.out.own.lt b hb).1)
        have HGR5 := Lib.hid hgr5
        have HA5 := Lib.hid ha5
        have HGB5 := Lib.hid hgb5
        clear hown5 hgrow5 hgr5 ha5 hgb5 hown hat5
        go_wp2
        go_roundw
        case rel =>
          refine ⟨ts ++ [Y.1], Y.2, f', HA5.out, HX.out.gb HGB5.out, HGB5.out, HGR5.out, ?_, ?_, ?_⟩
          · have := HV.out; have := HF.out; have := HK2.out; omega
          · have := HV.out; have := HI.out.len; have := HK2.out; simp; omega
          · rw [← HRR.out, HE.out]; simp
        case measure =>
          rw [HA5.out.len, hlen]
          have := HV.out; have := HK2.out; omega
end Go.Proofs.YtkknglmpdmhhjaaGreatDoor.Pa
