/-
  Texts of this seat in build order: RpStmts, RpBlk, RpApp.
-/
import Derived.Test.YtinoaajohkafmaaGreatMw18
import Derived.Test.YtinoaajohkafmaaGreatMw04
import Derived.Test.YtinoaajohkafmaaGreatMw05
/-
  The reference's parser: statements.
-/
namespace Go.Proofs.YtinoaajohkafmaaGreat.Rp
open Go Go.RowKit Go.Proofs.YtinoaajohkafmaaGreat.Uni Go.Proofs.YtinoaajohkafmaaGreat.Pa
open Go.Proofs.YtinoaajohkafmaaGreat.Lx
set_option linter.unusedVariables false
set_option linter.unusedSimpArgs false
attribute [local go_sem ↓] ldK stK alK bdK bsK ldN stN alN bdN bsN
attribute [local irreducible] kcs ncs ncells
attribute [local go_sem] run_alK run_bdK0 run_bdKs run_bdKn run_bdKe run_bsK run_fdK0 run_fdK1 run_fdK2 run_fdK3 run_fdN4 run_alN run_stNg run_ldNg run_bdN0 run_bdN04 run_bdN02 run_bdN01 run_bdN024 run_bdN03 run_bdN0234 run_bsN1 run_bsN2 run_bsN3
structure SI (L : Low) (fin : PS → Bool) (g d : Nat) (w wr : World) (R : List Tree × PS) (ts : List Tree) (xs : List Nd) (s : PS) (f : Nat) (v : Value) : Prop where
  at_ : At g d s wr
  gb : GB g w wr
  gr : Grow w wr ts xs v
  fu : s.fault = 0 → s.left.length < f
  len : ts.length ≤ 100001 ∧ (s.fault = 0 → ts.length + s.left.length ≤ 100000)
  eq : R = (ts ++ (stmtsF L fin f s).1, (stmtsF L fin f s).2)
set_option maxRecDepth 100000 in
set_option maxHeartbeats 4000000 in
theorem stmts_end {d : Nat} {L : Low} (hL : LowC d L) {g : Nat} {s : PS} {w : World} (h : At g d s w) :
    Calls Tryz.prog 20 #[.pointer (some ⟨g, 0, none⟩), .bool true] w (PostL g d w (stmtsF L endF (s.left.length + 1) s)) := by
  obtain ⟨i0, hi, hz0, hz1, hz2⟩ := info_parts infoN3
  have hgl := h.lt
  have hlen0 := h.ok.len
  have hst : SI L endF g d w w (stmtsF L endF (s.left.length + 1) s) [] [] s (s.left.length + 1) (.slice none 0 0) :=
    ⟨h, GB.refl _ _, Grow.nil _ _, fun _ => by omega, ⟨by simp, fun _ => by simpa using hlen0⟩, by simp⟩
  have HST := Lib.hid hst
  obtain ⟨R, hR⟩ : ∃ R, R = stmtsF L endF (s.left.length + 1) s := ⟨_, rfl⟩
  rw [← hR] at HST ⊢
  clear hst hR h hlen0
  go_enter Tryz.func20, Tryz.ntmps20
  go_wp2
  go_loopw [5] (fun v wr => ∃ ts xs s f, SI L endF g d w wr R ts xs s f v) (fun _ wr => measS g wr)
  case atStart => exact ⟨_, _, _, _, HST.out⟩
  case round =>
    obtain ⟨ts, xs, s', f, hI⟩ := hrel
    have hmeas := hI.at_.meas
    by_cases hf : s'.fault = 0
    · have c3 := hI.at_.c30 hf
      cases hk : endF s' with
      | true =>
        have h1 := now_any hI.at_ hf
        have hk0 : (s'.next.kind == 0) = true := hk
        have he := hI.eq
        rw [stF_fin (fin := endF) hk, List.append_nil] at he
        have HI := Lib.hid hI
        have HE := Lib.hid he
        clear hk hI he hmeas hf
        go_wp2_with (go_at_call 36; (with_reducible refine h1.mono ?_); rintro e w3 ⟨rfl, hb3⟩; have HB3 := Lib.hid hb3; clear hb3)
        go_ret
        rw [HE.out]
        exact ⟨_, xs, rfl, HI.out.gr.frame (GB.of HB3.out) hgl, HI.out.len.1, HI.out.at_.below HB3.out, HI.out.gb.trans (GB.of HB3.out)⟩
      | false =>
        have h1 := now_any hI.at_ hf
        have hk0 : (s'.next.kind == 0) = false := hk
        have hfu := hI.fu hf
        obtain ⟨f', rfl⟩ : ∃ f', f = f' + 1 := ⟨f - 1, by omega⟩
        have he := hI.eq
        obtain ⟨Y, hY⟩ : ∃ Y, L.st s' = Y := ⟨_, rfl⟩
        rw [stF_cons (fin := endF) hk hf, hY] at he
        have hadv := hL.ad.st s' hI.at_.ok
        have hpr := hL.ad.pr s' hI.at_.ok hf
        rw [hY] at hadv hpr
        rw [if_pos hf] at hmeas
        have HI := Lib.hid hI
        have HE := Lib.hid he
        have HY := Lib.hid hY
        have HV := Lib.hid hadv
        have HP := Lib.hid hpr
        have HF := Lib.hid hfu
        have HFF := Lib.hid hf
        have HM := Lib.hid hmeas
        have hn1 : ts.length + 1 ≤ 200000 := by have := hI.len.1; omega
        clear hk hI he hY hadv hfu hpr hf hmeas
        go_wp2_with (first | (go_at_call 36; (with_reducible refine h1.mono ?_); rintro e w3 ⟨rfl, hb3⟩; have h4 := hL.st (HI.out.at_.below hb3); have HB3 := Lib.hid hb3; clear hb3) | (go_at_call 38; (with_reducible refine h4.mono ?_); rintro e w4 ⟨N4, rfl, hr4, ha4, hg4⟩; refine Hid.out ?_))
        refine Lib.hid ?_
        rw [HY.out] at hr4 ha4
        have hg3 := GB.of (g := g) HB3.out
        have hgr3 := HI.out.gr.frame hg3 hgl
        have hgb3 := HI.out.gb.trans hg3
        have hgr := hgr3.frame hg4 hgl
        have hgb4 := hgb3.trans hg4
        have hs3 : w.heap.size ≤ w3.heap.size := hgb3.size
        have hs4 : w.heap.size ≤ w4.heap.size := Nat.le_trans hs3 hg4.size
        have hrT := hgr3.fresh hs3 hr4
        have hown := (hgr.alloc (.cells (ncells [N4]).toArray 25)).own
        have HT := Lib.hid (Rep.keep (w' := w4.alloc (.cells (ncells [N4]).toArray 25)) (fun b hb hS => ⟨hS, heap_alloc_old _ _ hb⟩) _ _ hrT)
        have HGR := Lib.hid (hgr.alloc (.cells (ncells [N4]).toArray 25))
        have HA4 := Lib.hid (ha4.alloc (.cells (ncells [N4]).toArray 25))
        have HG4 := Lib.hid (hgb4.trans (GB.of (bel1 (o := .cells (ncells [N4]).toArray 25))))
        clear hr4 ha4 hg4 hgr hgb4 hrT hgr3 hgb3 h1 h4 hg3
        go_wp2_with (at_builtin; refine wpList_append_own_at _ rfl _ _ 23 rfl w.heap.size 25 i0 (.agg (ncs zeroN)) 5 80 Tryz.underlying23 hi hz0 hz1 hz2 zeroN_cells (by decide) _ _ _ rfl hown ⟨w4.heap.size, 0, none⟩ 1 1 (ncs N4).toList rfl (ncs_list N4) (new_cellsN w4 N4) (ncs_one' N4) (by unfold maxLen; omega) (by omega) (by simp; omega) ?_; intro v5 w5 hown5 hgrow5 _ hat5; refine Hid.out ?_)
        refine Lib.hid ?_
        have hgr5 := HGR.out.snoc HT.out hown5 hgrow5 hat5
        have ha5 := HA4.out.grown hgrow5 (by decide) HGR.out.own hgl
        have hgb5 := GB.grown HG4.out hgrow5 (fun b hb => (HGR.out.own.lt b hb).1)
        have HGR5 := Lib.hid hgr5
        have HA5 := Lib.hid ha5
        have HGB5 := Lib.hid hgb5
        clear hown5 hgrow5 hgr5 ha5 hgb5 hown hat5
        go_wp2
        go_roundw
        case rel =>
          refine ⟨ts ++ [Y.1], xs ++ [N4], Y.2, f', HA5.out, HGB5.out, HGR5.out, ?_, ?_, ?_⟩
          · intro h0; have := HP.out; have := HF.out; omega
          · have := HI.out.len; have := this.2 HFF.out; have hp := HI.out.at_.ok.pos
            refine ⟨by simp; omega, fun h0 => ?_⟩
            have := HP.out; simp; omega
          · rw [HE.out]; simp
        case measure =>
          rw [HA5.out.meas, HM.out]
          have := HP.out
          split <;> omega
    · have hq : (s'.fault == 0) = false := by simpa using hf
      have c3 := hI.at_.c3
      have he := hI.eq
      rw [stF_bad hf, List.append_nil] at he
      have HI := Lib.hid hI
      have HE := Lib.hid he
      clear hI he hmeas hf
      go_wp2
      go_ret
      rw [HE.out]
      exact ⟨_, xs, rfl, HI.out.gr, HI.out.len.1, HI.out.at_, HI.out.gb⟩
set_option maxRecDepth 100000 in
set_option maxHeartbeats 4000000 in
theorem stmts_blk {d : Nat} {L : Low} (hL : LowC d L) {g : Nat} {s : PS} {w : World} (h : At g d s w) :
    Calls Tryz.prog 20 #[.pointer (some ⟨g, 0, none⟩), .bool false] w (PostL g d w (stmtsF L (seesF ⟨#[125]⟩) (s.left.length + 1) s)) := by
  obtain ⟨i0, hi, hz0, hz1, hz2⟩ := info_parts infoN3
  have hgl := h.lt
  have hlen0 := h.ok.len
  have hst : SI L (seesF ⟨#[125]⟩) g d w w (stmtsF L (seesF ⟨#[125]⟩) (s.left.length + 1) s) [] [] s (s.left.length + 1) (.slice none 0 0) :=
    ⟨h, GB.refl _ _, Grow.nil _ _, fun _ => by omega, ⟨by simp, fun _ => by simpa using hlen0⟩, by simp⟩
  have HST := Lib.hid hst
  obtain ⟨R, hR⟩ : ∃ R, R = stmtsF L (seesF ⟨#[125]⟩) (s.left.length + 1) s := ⟨_, rfl⟩
  rw [← hR] at HST ⊢
  clear hst hR h hlen0
  go_enter Tryz.func20, Tryz.ntmps20
  go_wp2
  go_loopw [5] (fun v wr => ∃ ts xs s f, SI L (seesF ⟨#[125]⟩) g d w wr R ts xs s f v) (fun _ wr => measS g wr)
  case atStart => exact ⟨_, _, _, _, HST.out⟩
  case round =>
    obtain ⟨ts, xs, s', f, hI⟩ := hrel
    have hmeas := hI.at_.meas
    by_cases hf : s'.fault = 0
    · have c3 := hI.at_.c30 hf
      cases hk : seesF ⟨#[125]⟩ s' with
      | true =>
        have h1 := is_any hI.at_ hf ⟨#[125]⟩
        rw [hk] at h1
        have he := hI.eq
        rw [stF_fin (fin := (seesF ⟨#[125]⟩)) hk, List.append_nil] at he
        have HI := Lib.hid hI
        have HE := Lib.hid he
        clear hk hI he hmeas hf
        go_wp2_with (go_at_call 37; (with_reducible refine h1.mono ?_); rintro e w3 ⟨rfl, hb3⟩; have HB3 := Lib.hid hb3; clear hb3)
        go_ret
        rw [HE.out]
        exact ⟨_, xs, rfl, HI.out.gr.frame (GB.of HB3.out) hgl, HI.out.len.1, HI.out.at_.below HB3.out, HI.out.gb.trans (GB.of HB3.out)⟩
      | false =>
        have h1 := is_any hI.at_ hf ⟨#[125]⟩
        rw [hk] at h1
        have hfu := hI.fu hf
        obtain ⟨f', rfl⟩ : ∃ f', f = f' + 1 := ⟨f - 1, by omega⟩
        have he := hI.eq
        obtain ⟨Y, hY⟩ : ∃ Y, L.st s' = Y := ⟨_, rfl⟩
        rw [stF_cons (fin := (seesF ⟨#[125]⟩)) hk hf, hY] at he
        have hadv := hL.ad.st s' hI.at_.ok
        have hpr := hL.ad.pr s' hI.at_.ok hf
        rw [hY] at hadv hpr
        rw [if_pos hf] at hmeas
        have HI := Lib.hid hI
        have HE := Lib.hid he
        have HY := Lib.hid hY
        have HV := Lib.hid hadv
        have HP := Lib.hid hpr
        have HF := Lib.hid hfu
        have HFF := Lib.hid hf
        have HM := Lib.hid hmeas
        have hn1 : ts.length + 1 ≤ 200000 := by have := hI.len.1; omega
        clear hk hI he hY hadv hfu hpr hf hmeas
        go_wp2_with (first | (go_at_call 37; (with_reducible refine h1.mono ?_); rintro e w3 ⟨rfl, hb3⟩; have h4 := hL.st (HI.out.at_.below hb3); have HB3 := Lib.hid hb3; clear hb3) | (go_at_call 38; (with_reducible refine h4.mono ?_); rintro e w4 ⟨N4, rfl, hr4, ha4, hg4⟩; refine Hid.out ?_))
        refine Lib.hid ?_
        rw [HY.out] at hr4 ha4
        have hg3 := GB.of (g := g) HB3.out
        have hgr3 := HI.out.gr.frame hg3 hgl
        have hgb3 := HI.out.gb.trans hg3
        have hgr := hgr3.frame hg4 hgl
        have hgb4 := hgb3.trans hg4
        have hs3 : w.heap.size ≤ w3.heap.size := hgb3.size
        have hs4 : w.heap.size ≤ w4.heap.size := Nat.le_trans hs3 hg4.size
        have hrT := hgr3.fresh hs3 hr4
        have hown := (hgr.alloc (.cells (ncells [N4]).toArray 25)).own
        have HT := Lib.hid (Rep.keep (w' := w4.alloc (.cells (ncells [N4]).toArray 25)) (fun b hb hS => ⟨hS, heap_alloc_old _ _ hb⟩) _ _ hrT)
        have HGR := Lib.hid (hgr.alloc (.cells (ncells [N4]).toArray 25))
        have HA4 := Lib.hid (ha4.alloc (.cells (ncells [N4]).toArray 25))
        have HG4 := Lib.hid (hgb4.trans (GB.of (bel1 (o := .cells (ncells [N4]).toArray 25))))
        clear hr4 ha4 hg4 hgr hgb4 hrT hgr3 hgb3 h1 h4 hg3
        go_wp2_with (at_builtin; refine wpList_append_own_at _ rfl _ _ 23 rfl w.heap.size 25 i0 (.agg (ncs zeroN)) 5 80 Tryz.underlying23 hi hz0 hz1 hz2 zeroN_cells (by decide) _ _ _ rfl hown ⟨w4.heap.size, 0, none⟩ 1 1 (ncs N4).toList rfl (ncs_list N4) (new_cellsN w4 N4) (ncs_one' N4) (by unfold maxLen; omega) (by omega) (by simp; omega) ?_; intro v5 w5 hown5 hgrow5 _ hat5; refine Hid.out ?_)
        refine Lib.hid ?_
        have hgr5 := HGR.out.snoc HT.out hown5 hgrow5 hat5
        have ha5 := HA4.out.grown hgrow5 (by decide) HGR.out.own hgl
        have hgb5 := GB.grown HG4.out hgrow5 (fun b hb => (HGR.out.own.lt b hb).1)
        have HGR5 := Lib.hid hgr5
        have HA5 := Lib.hid ha5
        have HGB5 := Lib.hid hgb5
        clear hown5 hgrow5 hgr5 ha5 hgb5 hown hat5
        go_wp2
        go_roundw
        case rel =>
          refine ⟨ts ++ [Y.1], xs ++ [N4], Y.2, f', HA5.out, HGB5.out, HGR5.out, ?_, ?_, ?_⟩
          · intro h0; have := HP.out; have := HF.out; omega
          · have := HI.out.len; have := this.2 HFF.out; have hp := HI.out.at_.ok.pos
            refine ⟨by simp; omega, fun h0 => ?_⟩
            have := HP.out; simp; omega
          · rw [HE.out]; simp
        case measure =>
          rw [HA5.out.meas, HM.out]
          have := HP.out
          split <;> omega
    · have hq : (s'.fault == 0) = false := by simpa using hf
      have c3 := hI.at_.c3
      have he := hI.eq
      rw [stF_bad hf, List.append_nil] at he
      have HI := Lib.hid hI
      have HE := Lib.hid he
      clear hI he hmeas hf
      go_wp2
      go_ret
      rw [HE.out]
      exact ⟨_, xs, rfl, HI.out.gr, HI.out.len.1, HI.out.at_, HI.out.gb⟩
end Go.Proofs.YtinoaajohkafmaaGreat.Rp

/-
  The reference's parser: block, args.
-/
namespace Go.Proofs.YtinoaajohkafmaaGreat.Rp
open Go Go.RowKit Go.Proofs.YtinoaajohkafmaaGreat.Uni Go.Proofs.YtinoaajohkafmaaGreat.Pa
open Go.Proofs.YtinoaajohkafmaaGreat.Lx
set_option linter.unusedVariables false
set_option linter.unusedSimpArgs false
attribute [local go_sem ↓] ldK stK alK bdK bsK ldN stN alN bdN bsN
attribute [local irreducible] kcs ncs ncells
attribute [local go_sem] run_alK run_bdK0 run_bdKs run_bdKn run_bdKe run_bsK run_fdK0 run_fdK1 run_fdK2 run_fdK3 run_fdN4 run_alN run_stNg run_ldNg run_bdN0 run_bdN04 run_bdN02 run_bdN01 run_bdN024 run_bdN03 run_bdN0234 run_bsN1 run_bsN2 run_bsN3
section
variable {g d : Nat} {s : PS} {S0 : Nat → Prop} {w0 W : World} {bs : List (Nat × Nd)} {vs : List (Tree × Nd)}
theorem Env.lift (E : Env g d s S0 w0 W bs vs) {b : Nat} (hb : W.heap.size ≤ b) : Own S0 w0.heap.size (bs.map Prod.fst) b := by
  refine ⟨.inr (Nat.le_trans E.size hb), fun hm => ?_⟩
  obtain ⟨x, hx, rfl⟩ := List.mem_map.1 hm
  have := (E.bl x hx).2.lt
  omega
theorem Env.callL {d' : Nat} {R : List Tree × PS} {w' : World} {e : Ending} (E : Env g d s S0 w0 W bs vs) (h : PostL g d' W R e w') (k n : Int) (t : ByteArray) : ∃ S : Sl, e = .returned (.slice S.a S.n S.c) ∧ Env g d' R.2 S0 w0 w' bs ((.mk k n t [] R.1, ⟨k, n, t, nilSl, S⟩) :: vs) := by
  obtain ⟨v, xs, he, hgr, hl, ha, hg⟩ := h
  obtain ⟨S, hv, hrow, hrp⟩ := hgr.row
  subst hv
  refine ⟨S, he, (E.frame ha hg).add (Rep.of (xs := xs) ?_ ?_)⟩
  · exact hrow.keep (fun b hb hS => ⟨E.lift hS, rfl⟩)
  · exact Reps.keep (fun b hb hS => ⟨E.lift hS, rfl⟩) _ _ hrp
theorem Env.func (E : Env g d s S0 w0 W bs vs) {k n : Int} {t : ByteArray} {ns : List ByteArray} {S : Sl} {T : Tree} {N : Nd} (h1 : (.mk k n t ns [], ⟨k, n, t, S, nilSl⟩) ∈ vs) (h2 : (T, N) ∈ vs) : Env g d s S0 w0 W bs ((.mk k n t ns T.kids, ⟨k, n, t, S, N.kids⟩) :: vs) := by
  have r1 := E.rp _ h1
  unfold Rep at r1
  obtain ⟨-, -, -, r2, -⟩ := r1
  obtain ⟨xs, r3, r4⟩ := (E.rp _ h2).ks
  refine E.add ?_
  unfold Rep
  exact ⟨rfl, rfl, rfl, r2, xs, r3, r4⟩
end
theorem grow_up {w0 w1 W : World} {ts : List Tree} {xs : List Nd} {v : Value} (h : Grow w1 W ts xs v) (hs : w0.heap.size ≤ w1.heap.size) : Grow w0 W ts xs v :=
  ⟨own_base h.own hs, Reps.keep (fun b hb hS => ⟨⟨Nat.le_trans hs hS.1, hS.2⟩, rfl⟩) _ _ h.rp⟩
set_option maxRecDepth 100000 in
set_option maxHeartbeats 4000000 in
theorem block_any {d : Nat} {L : Low} (hL : LowC d L) {g : Nat} {s : PS} {w : World} (h : At g d s w) :
    Calls Tryz.prog 87 #[.pointer (some ⟨g, 0, none⟩)] w (PostN g d w (blockF L s)) := by
  have E0 := (Env.start h).new zeroN
  have c1 := want_any E0.at_ ⟨#[123]⟩
  have HE0 := Lib.hid E0
  clear E0 h
  go_enter Tryz.func87, Tryz.ntmps87
  go_wp2_with (first | (go_at_call 82; (with_reducible refine c1.mono ?_); intro e w1 hp; obtain ⟨rfl, E1⟩ := HE0.out.call hp; have c2 := stmts_blk hL E1.at_; have HE1 := Lib.hid E1; clear hp E1) | (go_at_call 20; (with_reducible refine c2.mono ?_); intro e w2 hp; obtain ⟨S2, rfl, E2⟩ := HE1.out.callL hp 40 0 noS; have c3 := want_any E2.at_ ⟨#[125]⟩; have HE2 := Lib.hid E2; clear hp E2) | (go_at_call 82; (with_reducible refine c3.mono ?_); intro e w3 hp; obtain ⟨rfl, E3⟩ := HE2.out.call hp; have s3 := E3.sto 0 rfl; have HE3 := Lib.hid E3; clear hp E3))
  exact ((HE3.out.store 0 rfl _).fin List.mem_cons_self List.mem_cons_self rfl rfl)
set_option maxRecDepth 100000 in
set_option maxHeartbeats 4000000 in
theorem args_any {d : Nat} {L : Low} (hL : LowC d L) {g : Nat} {s : PS} {w : World} (h : At g d s w) :
    Calls Tryz.prog 133 #[.pointer (some ⟨g, 0, none⟩)] w (PostL g d w (rargsF L s)) := by
  have c1 := want_any h ⟨#[40]⟩
  have hgl := h.lt
  clear h
  unfold rargsF
  go_enter Tryz.func133, Tryz.ntmps133
  go_wp2_with (first | (go_at_call 82; (with_reducible refine c1.mono ?_); rintro e w1 ⟨rfl, ha1, hg1⟩; have c2 := list_any hL ⟨#[41]⟩ ha1; have HG1 := Lib.hid hg1; clear ha1 hg1) | (go_at_call 137; (with_reducible refine c2.mono ?_); rintro e w2 ⟨v2, xs2, rfl, hgr2, hl2, ha2, hg2⟩; have c3 := want_any ha2 ⟨#[41]⟩; have HGR2 := Lib.hid hgr2; have HL2 := Lib.hid hl2; have HG2 := Lib.hid hg2; clear hgr2 hl2 ha2 hg2) | (go_at_call 82; (with_reducible refine c3.mono ?_); rintro e w3 ⟨rfl, ha3, hg3⟩; have HA3 := Lib.hid ha3; have HG3 := Lib.hid hg3; clear ha3 hg3))
  go_ret
  exact ⟨_, xs2, rfl, (grow_up HGR2.out HG1.out.size).frame HG3.out hgl, HL2.out, HA3.out, (HG1.out.trans HG2.out).trans HG3.out⟩
end Go.Proofs.YtinoaajohkafmaaGreat.Rp

/-
  The reference's parser: lists of kids and of names that grow by append.
-/
namespace Go.Proofs.YtinoaajohkafmaaGreat.Rp
open Go Go.RowKit Go.Proofs.YtinoaajohkafmaaGreat.Uni Go.Proofs.YtinoaajohkafmaaGreat.Pa
open Go.Proofs.YtinoaajohkafmaaGreat.Lx
set_option linter.unusedVariables false
set_option linter.unusedSimpArgs false
attribute [local go_sem ↓] ldK stK alK bdK bsK ldN stN alN bdN bsN
attribute [local irreducible] kcs ncs ncells
attribute [local go_sem] run_alK run_bdK0 run_bdKs run_bdKn run_bdKe run_bsK run_fdK0 run_fdK1 run_fdK2 run_fdK3 run_fdN4 run_alN run_stNg run_ldNg run_bdN0 run_bdN04 run_bdN02 run_bdN01 run_bdN024 run_bdN03 run_bdN0234 run_bsN1 run_bsN2 run_bsN3
section
variable {g d : Nat} {s : PS} {S0 : Nat → Prop} {w0 W : World} {bs : List (Nat × Nd)} {vs : List (Tree × Nd)}
theorem Env.grownV (E : Env g d s S0 w0 W bs vs) {w' : World} {v : Value} {et size n : Nat} {xs : List Value} (het : et ≠ 73) (own : W.ownsRow 0 et size v n xs) (ob : ∀ b, v.ownBlock = some b → w0.heap.size ≤ b ∧ Own S0 w0.heap.size (bs.map Prod.fst) b) (hg : W.grownBy w' v.ownBlock) : Env g d s S0 w0 w' bs [] := by
  have hgl := E.gl
  have hob : ∀ b, v.ownBlock = some b → w0.heap.size ≤ b := fun b hb => (ob b hb).1
  refine ⟨?_, GB.grown E.gb hg hob, hgl, E.s0, fun x hx => ⟨(E.bl x hx).1, ?_⟩, E.nd, fun v hv => by simp at hv⟩
  · refine E.at_.grown (w0 := w0) (et := et) hg het (own_up own hob) hgl
  · refine (hg.block x.1 (E.bl x hx).2.lt (fun e => ?_)).trans (E.bl x hx).2
    exact (ob x.1 e.symm).2.2 (List.mem_map.2 ⟨x, hx, rfl⟩)
theorem Env.ofGrow (E : Env g d s S0 w0 W bs vs) {ts : List Tree} {xs : List Nd} {a : Option Addr} {n c : Nat} (G : GrowX (Own S0 w0.heap.size (bs.map Prod.fst)) w0.heap.size W ts xs (.slice a n c)) (k m : Int) (t : ByteArray) : Env g d s S0 w0 W bs ((.mk k m t [] ts, ⟨k, m, t, nilSl, ⟨a, n, c⟩⟩) :: vs) :=
  E.add (Rep.of (xs := xs) ⟨G.own, fun b hb => (G.ob b hb).2⟩ (Reps.keep (fun b hb hS => ⟨hS.1, rfl⟩) _ _ G.rp))
theorem growx_gb {w' : World} {ts : List Tree} {xs : List Nd} {v : Value} (G : GrowX (Own S0 w0.heap.size (bs.map Prod.fst)) w0.heap.size W ts xs v) (E : Env g d s S0 w0 W bs vs) (hg : GB g W w') : GrowX (Own S0 w0.heap.size (bs.map Prod.fst)) w0.heap.size w' ts xs v :=
  G.frame fun b hb hS => ⟨hS, hg.block b hb (by simpa using E.ne b hS)⟩
theorem growx_cell {ts : List Tree} {xs : List Nd} {v : Value} (G : GrowX (Own S0 w0.heap.size (bs.map Prod.fst)) w0.heap.size W ts xs v) (i : Nat) {b : Nat} {o : Nd} (hi : bs[i]? = some (b, o)) (j : Nat) (u : Value) {bs' : List (Nat × Nd)} (hb : bs'.map Prod.fst = bs.map Prod.fst) : GrowX (Own S0 w0.heap.size (bs'.map Prod.fst)) w0.heap.size (W.setCell ⟨b, j, none⟩ u) ts xs v := by
  rw [hb]
  exact G.frame fun c hc hS => ⟨hS, heap_setCell_other W ⟨b, j, none⟩ c u (fun e => hS.2 (List.mem_map.2 ⟨_, List.mem_of_getElem? hi, e.symm⟩))⟩
theorem growx_drew {S : Nat → Prop} {lo : Nat} {ts : List Tree} {xs : List Nd} {v : Value} (G : GrowX S lo W ts xs v) : GrowX S lo W.drew ts xs v := G.frame fun b hb hS => ⟨hS, rfl⟩
theorem app_facts (E : Env g d s S0 w0 W bs vs) {ts : List Tree} {xs : List Nd} {v : Value} (G : GrowX (Own S0 w0.heap.size (bs.map Prod.fst)) w0.heap.size W ts xs v) {d' : Nat} {R : Tree × PS} {e : Ending} {w5 : World} (hp : PostN g d' W R e w5) (hn : ts.length ≤ 200000) :
    ∃ N a n c w6, e = .returned (.agg (ncs N)) ∧ Env g d' R.2 S0 w0 w5 bs ((R.1, N) :: vs) ∧ (Builtin.append_ #[23, 23] 23 #[v, .slice (some ⟨w5.heap.size, 0, none⟩) 1 1]).run Tryz.prog (w5.alloc (.cells (ncells [N]).toArray 25)) = .ok (.slice a n c) w6 ∧ Env g d' R.2 S0 w0 w6 bs [] ∧ GrowX (Own S0 w0.heap.size (bs.map Prod.fst)) w0.heap.size w6 (ts ++ [R.1]) (xs ++ [N]) (.slice a n c) := by
  have hlt : ∀ b, v.ownBlock = some b → b < W.heap.size := fun b hb => (G.own.lt b hb).2
  obtain ⟨N, he, hr, ha, hg⟩ := hp
  have E5 : Env g d' R.2 S0 w0 w5 bs ((R.1, N) :: vs) := by
    obtain ⟨N', he', E'⟩ := E.callN (⟨N, he, hr, ha, hg⟩ : PostN g d' W R e w5)
    refine (E.frame ha hg).add (Rep.keep (fun b hb hS2 => ⟨?_, rfl⟩) _ _ hr)
    rcases hS2 with hS2 | hS2
    · exact hS2.elim
    · exact E.lift hS2
  have G5 := growx_gb G E hg
  have hT : Rep (fun b => Own S0 w0.heap.size (bs.map Prod.fst) b ∧ some b ≠ v.ownBlock) w5 R.1 N := Rep.keep (fun b hb hS => by
    rcases hS with hS | hS
    · exact hS.elim
    · exact ⟨⟨E.lift hS, fun e => by have := hlt b e.symm; omega⟩, rfl⟩) _ _ hr
  obtain ⟨a, n, c, w6, h1, h2, h3⟩ := grow_one G5 hT (fun b hb => E5.lift hb) E5.size hn
  have G6 := G5.alloc (.cells (ncells [N]).toArray 25)
  exact ⟨N, a, n, c, w6, he, E5, h1, (E5.alloc (.cells (ncells [N]).toArray 25)).grownV (by decide) G6.own G6.ob h3, h2⟩
theorem app_one (E : Env g d s S0 w0 W bs vs) {ts : List Tree} {xs : List Nd} {v : Value} (G : GrowX (Own S0 w0.heap.size (bs.map Prod.fst)) w0.heap.size W ts xs v) {T : Tree} {N : Nd} (hT : Rep (fun b => Own S0 w0.heap.size (bs.map Prod.fst) b ∧ some b ≠ v.ownBlock) W T N) (hn : ts.length ≤ 200000) :
    ∃ a n c w6, (Builtin.append_ #[23, 23] 23 #[v, .slice (some ⟨W.heap.size, 0, none⟩) 1 1]).run Tryz.prog (W.alloc (.cells (ncells [N]).toArray 25)) = .ok (.slice a n c) w6 ∧ Env g d s S0 w0 w6 bs [] ∧ GrowX (Own S0 w0.heap.size (bs.map Prod.fst)) w0.heap.size w6 (ts ++ [T]) (xs ++ [N]) (.slice a n c) := by
  obtain ⟨a, n, c, w6, h1, h2, h3⟩ := grow_one G hT (fun b hb => E.lift hb) E.size hn
  have G6 := G.alloc (.cells (ncells [N]).toArray 25)
  exact ⟨a, n, c, w6, h1, (E.alloc (.cells (ncells [N]).toArray 25)).grownV (by decide) G6.own G6.ob h3, h2⟩
end
structure GrowN (S : Nat → Prop) (lo : Nat) (W : World) (ts : List ByteArray) (v : Value) : Prop where
  own : W.ownsRow 0 9 1 v ts.length (ts.map Value.string)
  ob : ∀ b, v.ownBlock = some b → lo ≤ b ∧ S b
theorem GrowN.nil (S : Nat → Prop) (lo : Nat) (W : World) : GrowN S lo W [] (.slice none 0 0) := ⟨World.ownsRow_nil _ _ _ _, fun b hb => by simp [Value.ownBlock] at hb⟩
theorem GrowN.frame {S S' : Nat → Prop} {lo : Nat} {W w' : World} {ts : List ByteArray} {v : Value} (G : GrowN S lo W ts v) (hk : ∀ b, b < W.heap.size → S b → S' b ∧ w'.heap[b]? = W.heap[b]?) : GrowN S' lo w' ts v := by
  have hlt : ∀ b, v.ownBlock = some b → b < W.heap.size := fun b hb => (G.own.lt b hb).2
  exact ⟨own_keep G.own (fun b hb => (hk b (hlt b hb) (G.ob b hb).2).2), fun b hb => ⟨(G.ob b hb).1, (hk b (hlt b hb) (G.ob b hb).2).1⟩⟩
theorem GrowN.alloc {S : Nat → Prop} {lo : Nat} {W : World} {ts : List ByteArray} {v : Value} (G : GrowN S lo W ts v) (o : Obj) : GrowN S lo (W.alloc o) ts v := G.frame fun b hb hS => ⟨hS, heap_alloc_old _ _ hb⟩
theorem GrowN.drew {S : Nat → Prop} {lo : Nat} {W : World} {ts : List ByteArray} {v : Value} (G : GrowN S lo W ts v) : GrowN S lo W.drew ts v := G.frame fun b hb hS => ⟨hS, rfl⟩
theorem grow_name {S : Nat → Prop} {lo : Nat} {W : World} {ts : List ByteArray} {v : Value} (G : GrowN S lo W ts v) (T : ByteArray) (hS : ∀ b, W.heap.size ≤ b → S b) (hlo : lo ≤ W.heap.size) (hn : ts.length ≤ 200000) :
    ∃ a n c w', (Builtin.append_ #[22, 22] 22 #[v, .slice (some ⟨W.heap.size, 0, none⟩) 1 1]).run Tryz.prog (W.alloc (.cells #[.string T] 9)) = .ok (.slice a n c) w' ∧ GrowN S lo w' (ts ++ [T]) (.slice a n c) ∧ (W.alloc (.cells #[.string T] 9)).grownBy w' v.ownBlock := by
  obtain ⟨i0, hi, hz0, hz1, hz2⟩ := info_parts infoS3
  have G1 := G.alloc (.cells #[.string T] 9)
  obtain ⟨v', w', h3, h4, h5, _, h6⟩ := run_append_own_at (P := Tryz.prog) (W.alloc (.cells #[.string T] 9)) 0 22 22 9 i0 (.string noS) 1 16 Tryz.underlying22 hi hz0 hz1 hz2 rfl (by decide) v ts.length (ts.map Value.string) G1.own ⟨W.heap.size, 0, none⟩ 1 1 [.string T] rfl (cell_one_new W _ _) (by intro u hu; rw [List.mem_singleton.1 hu]; rfl) (by unfold maxLen; omega) (by omega) (Nat.zero_le _)
  have fin : GrowN S lo w' (ts ++ [T]) v' := by
    refine ⟨by rw [List.map_append, List.length_append]; exact h4, fun b hb => ?_⟩
    rcases h6 with e | e
    · exact G.ob b (e ▸ hb)
    · rw [e] at hb; cases hb; simp; exact ⟨by omega, hS _ (by omega)⟩
  rcases h4.2 with ⟨rfl, -⟩ | ⟨g, cap, cur, rfl, -⟩
  · exact ⟨_, _, _, w', h3, fin, h5⟩
  · exact ⟨_, _, _, w', h3, fin, h5⟩
section
variable {g d : Nat} {s : PS} {S0 : Nat → Prop} {w0 W : World} {bs : List (Nat × Nd)} {vs : List (Tree × Nd)}
theorem grown_gb {w' : World} {ts : List ByteArray} {v : Value} (G : GrowN (Own S0 w0.heap.size (bs.map Prod.fst)) w0.heap.size W ts v) (E : Env g d s S0 w0 W bs vs) (hg : GB g W w') : GrowN (Own S0 w0.heap.size (bs.map Prod.fst)) w0.heap.size w' ts v :=
  G.frame fun b hb hS => ⟨hS, hg.block b hb (by simpa using E.ne b hS)⟩
theorem grown_cell {ts : List ByteArray} {v : Value} (G : GrowN (Own S0 w0.heap.size (bs.map Prod.fst)) w0.heap.size W ts v) (i : Nat) {b : Nat} {o : Nd} (hi : bs[i]? = some (b, o)) (j : Nat) (u : Value) {bs' : List (Nat × Nd)} (hb : bs'.map Prod.fst = bs.map Prod.fst) : GrowN (Own S0 w0.heap.size (bs'.map Prod.fst)) w0.heap.size (W.setCell ⟨b, j, none⟩ u) ts v := by
  rw [hb]
  exact G.frame fun c hc hS => ⟨hS, heap_setCell_other W ⟨b, j, none⟩ c u (fun e => hS.2 (List.mem_map.2 ⟨_, List.mem_of_getElem? hi, e.symm⟩))⟩
theorem app_name (E : Env g d s S0 w0 W bs vs) {ts : List ByteArray} {v : Value} (G : GrowN (Own S0 w0.heap.size (bs.map Prod.fst)) w0.heap.size W ts v) {d' : Nat} {s' : PS} {T : ByteArray} {e : Ending} {w5 : World} (hp : Post g d' W (.string T) s' e w5) (hn : ts.length ≤ 200000) :
    ∃ a n c w6, e = .returned (.string T) ∧ Env g d' s' S0 w0 w5 bs vs ∧ (Builtin.append_ #[22, 22] 22 #[v, .slice (some ⟨w5.heap.size, 0, none⟩) 1 1]).run Tryz.prog (w5.alloc (.cells #[.string T] 9)) = .ok (.slice a n c) w6 ∧ Env g d' s' S0 w0 w6 bs [] ∧ GrowN (Own S0 w0.heap.size (bs.map Prod.fst)) w0.heap.size w6 (ts ++ [T]) (.slice a n c) := by
  have hg := hp.2.2
  obtain ⟨he, E5⟩ := E.call hp
  have G5 := grown_gb G E hg
  obtain ⟨a, n, c, w6, h1, h2, h3⟩ := grow_name G5 T (fun b hb => E5.lift hb) E5.size hn
  have G6 := G5.alloc (.cells #[.string T] 9)
  exact ⟨a, n, c, w6, he, E5, h1, (E5.alloc (.cells #[.string T] 9)).grownV (by decide) G6.own G6.ob h3, h2⟩
theorem Env.ofNames (E : Env g d s S0 w0 W bs vs) {ts : List ByteArray} {a : Option Addr} {n c : Nat} (G : GrowN (Own S0 w0.heap.size (bs.map Prod.fst)) w0.heap.size W ts (.slice a n c)) (k m : Int) (t : ByteArray) : Env g d s S0 w0 W bs ((.mk k m t ts [], ⟨k, m, t, ⟨a, n, c⟩, nilSl⟩) :: vs) := by
  refine E.add ?_
  unfold Rep
  exact ⟨rfl, rfl, rfl, ⟨G.own, fun b hb => (G.ob b hb).2⟩, [], by rw [ncells_nil]; exact Row.nil _ _ _ _, by unfold Reps; trivial⟩
theorem ncs_set3 (n : Nd) (a : Option Addr) (l c : Nat) : (ncs n).setIfInBounds 3 (.slice a l c) = ncs { n with names := ⟨a, l, c⟩ } := by unfold ncs; rfl
theorem Env.set3 (E : Env g d s S0 w0 W bs vs) (i : Nat) {b : Nat} {N : Nd} (hi : bs[i]? = some (b, N)) (a : Option Addr) (l c : Nat) : Env g d s S0 w0 (W.setCell ⟨b, 3, none⟩ (.slice a l c)) (bs.set i (b, { N with names := ⟨a, l, c⟩ })) vs := by
  have hB : Blk W b (ncs N) 25 := (E.bl _ (List.mem_of_getElem? hi)).2
  rw [setCell_row hB, ncs_set3]
  exact E.store i hi _
theorem Env.c3 (E : Env g d s S0 w0 W bs vs) (i : Nat) {b : Nat} {N : Nd} (hi : bs[i]? = some (b, N)) : W.cell? ⟨b, 3, none⟩ = some (.slice N.names.a N.names.n N.names.c) := ((E.bl _ (List.mem_of_getElem? hi)).2.cell 3).trans (ncs_3 N)
theorem Env.e3 (E : Env g d s S0 w0 W bs vs) : W.cell? ⟨g, 3, none⟩ = some (.int .i64 s.fault) := E.at_.c3
theorem Env.e30 (E : Env g d s S0 w0 W bs vs) (hf : s.fault = 0) : W.cell? ⟨g, 3, none⟩ = some (.int .i64 0) := E.at_.c30 hf
end
end Go.Proofs.YtinoaajohkafmaaGreat.Rp
