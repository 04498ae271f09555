/-
  Texts of this seat in build order: PaStmts, PaBlk.
-/
import Derived.Test.YtkknglmpdmhhjaaGreatDoorMg23
/-
  statements, up to where a closure says so.
-/
namespace Go.Proofs.YtkknglmpdmhhjaaGreatDoor.Pa
open Go Go.RowKit Go.Proofs.YtkknglmpdmhhjaaGreatDoor.Lx Go.Proofs.YtkknglmpdmhhjaaGreatDoor.Uni
set_option linter.unusedVariables false
set_option linter.unusedSimpArgs false
attribute [local go_sem ↓] ldK stK alK bdK bsK ldN stN alN bdN bsN
attribute [local irreducible] kcs ncs ncells
attribute [local go_sem] run_alK run_bdK0 run_bdKs run_bdKn run_bdKe run_bsK run_fdK0 run_fdK1 run_fdK2 run_fdK3 run_fdN4 run_alN run_stNg run_ldNg run_bdN0 run_bdN04 run_bdN02 run_bdN01 run_bdN024 run_bdN03 run_bdN0234 run_bsN1 run_bsN2 run_bsN3

def measS (g : Nat) (w : World) : Nat := match w.cell? ⟨g, 3, none⟩ with
  | some (.int _ n) => if n = 0 then lenOf g w + 1 else 0
  | _ => 0
theorem At.meas {g d : Nat} {s : PS} {w : World} (h : At g d s w) : measS g w = if s.fault = 0 then s.left.length + 1 else 0 := by
  obtain ⟨b, o, c, c0, c1, c2, c3, -⟩ := h.cells
  unfold measS
  rw [c3, h.len]
theorem stF_fin {L : Low} {fin : PS → Bool} {f : Nat} {s : PS} (h : fin s = true) : stmtsF L fin f s = ([], s) := by
  cases f with
  | zero => rfl
  | succ f => unfold stmtsF; rw [h]; rfl
theorem stF_bad {L : Low} {fin : PS → Bool} {f : Nat} {s : PS} (h : s.fault ≠ 0) : stmtsF L fin f s = ([], s) := by
  cases f with
  | zero => rfl
  | succ f => unfold stmtsF; rw [if_pos h]; split <;> rfl
theorem stF_cons {L : Low} {fin : PS → Bool} {f : Nat} {s : PS} (h : fin s = false) (h0 : s.fault = 0) : stmtsF L fin (f + 1) s = ((L.st s).1 :: (stmtsF L fin f (L.st s).2).1, (stmtsF L fin f (L.st s).2).2) := by
  conv => lhs; unfold stmtsF
  rw [h, if_neg (by simp), if_neg (by simpa using h0)]

/-- Where the loop stands. -/
structure SI (L : Low) (fin : PS → Bool) (g d : Nat) (w wr : World) (R : List Tree × PS) (ts : List Tree) (xs : List Nd) (s : PS) (f : Nat) (v : Value) : Prop where
  at_ : At g d s wr
  gx : Gx g wr
  gb : GB g w wr
  gr : Grow w wr ts xs v
  fu : s.fault = 0 → s.left.length < f
  len : ts.length ≤ 100001 ∧ (s.fault = 0 → ts.length + s.left.length ≤ 100000)
  eq : R = (ts ++ (stmtsF L fin f s).1, (stmtsF L fin f s).2)

set_option maxRecDepth 100000 in
set_option maxHeartbeats 4000000 in
theorem stmts_end {d : Nat} {L : Low} (hL : LowC d L) {fin : PS → Bool} {g : Nat} {s : PS} {w : World} (h : At g d s w) (hX : Gx g w)
    (hfin : ∀ (s' : PS) (W : World), GB g w W → At g d s' W → Calls Tryz.prog 24 #[.pointer (some ⟨g, 0, none⟩)] W (PostR W (.bool (fin s')))) :
    Calls Tryz.prog 23 #[.pointer (some ⟨g, 0, none⟩), .func (.func 24) #[.pointer (some ⟨g, 0, none⟩)] #[]] w (PostL g d w (stmtsF L fin (s.left.length + 1) s)) := by
  obtain ⟨i0, hi, hz0, hz1, hz2⟩ := info_parts infoN3
  have hgl := h.lt
  have hlen0 := h.ok.len
  have hst : SI L fin g d w w (stmtsF L fin (s.left.length + 1) s) [] [] s (s.left.length + 1) (.slice none 0 0) :=
    ⟨h, hX, GB.refl _ _, Grow.nil _ _, fun _ => by omega, ⟨by simp, fun _ => by simpa using hlen0⟩, by simp⟩
  have HST := Lib.hid hst
  have HX0 := Lib.hid hX
  obtain ⟨R, hR⟩ : ∃ R, R = stmtsF L fin (s.left.length + 1) s := ⟨_, rfl⟩
  rw [← hR] at HST ⊢
  have HFIN := Lib.hid hfin
  clear hst hR h hX hlen0 hfin
  go_enter Tryz.func23, Tryz.ntmps23
  go_wp2
  go_loopw [5] (fun v wr => ∃ ts xs s f, SI L fin g d w wr R ts xs s f v) (fun _ wr => measS g wr)
  case atStart => exact ⟨_, _, _, _, HST.out⟩
  case round =>
    obtain ⟨ts, xs, s', f, hI⟩ := hrel
    have hmeas := hI.at_.meas
    have h1 := HFIN.out _ _ hI.gb hI.at_
    cases hk : fin s' with
    | true =>
      have he := hI.eq
      rw [stF_fin hk, List.append_nil] at he
      rw [hk] at h1
      have HI := Lib.hid hI
      have HE := Lib.hid he
      clear hk hI he hmeas
      go_wp2_with (go_at_call 24; (with_reducible refine h1.mono ?_); rintro e w3 ⟨rfl, hb3⟩; have HB3 := Lib.hid hb3; clear hb3)
      go_ret
      rw [HE.out]
      exact ⟨_, xs, rfl, HI.out.gr.frame (GB.of HB3.out) hgl, HI.out.len.1, HI.out.at_.below HB3.out, HI.out.gb.trans (GB.of HB3.out)⟩
    | false =>
      rw [hk] at h1
      by_cases hf : s'.fault = 0
      · have hk1 : (s'.fault == 0) = true := by rw [hf]; rfl
        have hfail := fun (W : World) (ha : At g d s' W) => failed_any ha
        rw [hk1] at hfail
        have hfu := hI.fu hf
        obtain ⟨f', rfl⟩ : ∃ f', f = f' + 1 := ⟨f - 1, by omega⟩
        have he := hI.eq
        obtain ⟨Y, hY⟩ : ∃ Y, L.st s' = Y := ⟨_, rfl⟩
        rw [stF_cons hk hf, hY] at he
        have hadv := hL.ad.st s' hI.at_.ok
        have hpr := hL.ad.pr s' hI.at_.ok hf
        rw [hY] at hadv hpr
        rw [if_pos hf] at hmeas
        have HI := Lib.hid hI
        have HE := Lib.hid he
        have HY := Lib.hid hY
        have HV := Lib.hid hadv
        have HP := Lib.hid hpr
        have HF := Lib.hid hfu
        have HFF := Lib.hid hf
        have hn1 : ts.length + 1 ≤ 200000 := by have := hI.len.1; omega
        clear hk hI he hY hadv hfu hpr hf
        go_wp2_with (first | (go_at_call 24; (with_reducible refine h1.mono ?_); rintro e w2 ⟨rfl, hb2⟩; have h3 := hfail _ (HI.out.at_.below hb2); have HB2 := Lib.hid hb2; clear hb2) | (go_at_call 25; (with_reducible refine h3.mono ?_); rintro e w3 ⟨rfl, hb3⟩; have hb := (HB2.out.trans (hb3.mono HB2.out.size)); have h4 := hL.st (HI.out.at_.below hb) (HI.out.gx.gb (GB.of hb)); have HB3 := Lib.hid hb; clear hb3 hb) | (go_at_call 44; (with_reducible refine h4.mono ?_); rintro e w4 ⟨N4, rfl, hr4, ha4, hg4⟩; refine Hid.out ?_))
        refine Lib.hid ?_
        rw [HY.out] at hr4 ha4
        have hg3 := GB.of (g := g) HB3.out
        have hgr := (HI.out.gr.frame hg3 hgl).frame hg4 hgl
        have hgb4 := (HI.out.gb.trans hg3).trans hg4
        have hs3 : w.heap.size ≤ w3.heap.size := Nat.le_trans HI.out.gb.size hg3.size
        have hs4 : w.heap.size ≤ w4.heap.size := Nat.le_trans hs3 hg4.size
        have hgr3 := HI.out.gr.frame hg3 hgl
        have hrT := hgr3.fresh hs3 hr4
        have hown := (hgr.alloc (.cells (ncells [N4]).toArray 27)).own
        have HT := Lib.hid (Rep.keep (w' := w4.alloc (.cells (ncells [N4]).toArray 27)) (fun b hb hS => ⟨hS, heap_alloc_old _ _ hb⟩) _ _ hrT)
        have HGR := Lib.hid (hgr.alloc (.cells (ncells [N4]).toArray 27))
        have HA4 := Lib.hid (ha4.alloc (.cells (ncells [N4]).toArray 27))
        have HG4 := Lib.hid (hgb4.trans (GB.of (bel1 (o := .cells (ncells [N4]).toArray 27))))
        clear hr4 ha4 hg4 hgr hgb4 hgr3 hrT h1 h3 h4 hg3
        go_wp2_with (at_builtin; refine wpList_append_own_at _ rfl _ _ 25 rfl w.heap.size 27 i0 (.agg (ncs zeroN)) 5 80 Tryz.underlying25 hi hz0 hz1 hz2 zeroN_cells (by decide) _ _ _ rfl hown ⟨w4.heap.size, 0, none⟩ 1 1 (ncs N4).toList rfl (ncs_list N4) (new_cellsN w4 N4) (ncs_one' N4) (by unfold maxLen; omega) (by omega) (by simp; omega) ?_; intro v5 w5 hown5 hgrow5 _ hat5; refine Hid.out ?_)
        refine Lib.hid ?_
        have hgr5 := HGR.out.snoc HT.out hown5 hgrow5 hat5
        have ha5 := HA4.out.grown hgrow5 (by decide) HGR.out.own hgl
        have hgb5 := GB.grown HG4.out hgrow5 (fun b hb => (HGR.out.own.lt b hb).1)
        have HGR5 := Lib.hid hgr5
        have HA5 := Lib.hid ha5
        have HGB5 := Lib.hid hgb5
        clear hown5 hgrow5 hgr5 ha5 hgb5 hown hat5
        go_wp2
        go_roundw
        case rel =>
          refine ⟨ts ++ [Y.1], xs ++ [N4], Y.2, f', HA5.out, HX0.out.gb HGB5.out, HGB5.out, HGR5.out, ?_, ?_, ?_⟩
          · intro h0; have := HP.out; have := HF.out; omega
          · have := HI.out.len; have := this.2 HFF.out; have hp := HI.out.at_.ok.pos
            refine ⟨by simp; omega, fun h0 => ?_⟩
            have := HP.out; simp; omega
          · rw [HE.out]; simp
        case measure =>
          rw [HA5.out.meas, hmeas]
          have := HP.out
          split <;> omega
      · have hk1 : (s'.fault == 0) = false := by simpa using hf
        have hfail := fun (W : World) (ha : At g d s' W) => failed_any ha
        rw [hk1] at hfail
        have he := hI.eq
        rw [stF_bad hf, List.append_nil] at he
        have HI := Lib.hid hI
        have HE := Lib.hid he
        clear hk hI he hmeas hf
        go_wp2_with (first | (go_at_call 24; (with_reducible refine h1.mono ?_); rintro e w2 ⟨rfl, hb2⟩; have h3 := hfail _ (HI.out.at_.below hb2); have HB2 := Lib.hid hb2; clear hb2) | (go_at_call 25; (with_reducible refine h3.mono ?_); rintro e w3 ⟨rfl, hb3⟩; have HB3 := Lib.hid (HB2.out.trans (hb3.mono HB2.out.size)); clear hb3))
        go_ret
        rw [HE.out]
        exact ⟨_, xs, rfl, HI.out.gr.frame (GB.of HB3.out) hgl, HI.out.len.1, HI.out.at_.below HB3.out, HI.out.gb.trans (GB.of HB3.out)⟩

set_option maxRecDepth 100000 in
set_option maxHeartbeats 4000000 in
theorem stmts_blk {d : Nat} {L : Low} (hL : LowC d L) {fin : PS → Bool} {g : Nat} {bb : Nat} {s : PS} {w : World} (h : At g d s w) (hX : Gx g w)
    (hfin : ∀ (s' : PS) (W : World), GB g w W → At g d s' W → Calls Tryz.prog 138 #[.pointer (some ⟨bb, 0, none⟩)] W (PostR W (.bool (fin s')))) :
    Calls Tryz.prog 23 #[.pointer (some ⟨g, 0, none⟩), .func (.func 138) #[] #[.pointer (some ⟨bb, 0, none⟩)]] w (PostL g d w (stmtsF L fin (s.left.length + 1) s)) := by
  obtain ⟨i0, hi, hz0, hz1, hz2⟩ := info_parts infoN3
  have hgl := h.lt
  have hlen0 := h.ok.len
  have hst : SI L fin g d w w (stmtsF L fin (s.left.length + 1) s) [] [] s (s.left.length + 1) (.slice none 0 0) :=
    ⟨h, hX, GB.refl _ _, Grow.nil _ _, fun _ => by omega, ⟨by simp, fun _ => by simpa using hlen0⟩, by simp⟩
  have HST := Lib.hid hst
  have HX0 := Lib.hid hX
  obtain ⟨R, hR⟩ : ∃ R, R = stmtsF L fin (s.left.length + 1) s := ⟨_, rfl⟩
  rw [← hR] at HST ⊢
  have HFIN := Lib.hid hfin
  clear hst hR h hX hlen0 hfin
  go_enter Tryz.func23, Tryz.ntmps23
  go_wp2
  go_loopw [5] (fun v wr => ∃ ts xs s f, SI L fin g d w wr R ts xs s f v) (fun _ wr => measS g wr)
  case atStart => exact ⟨_, _, _, _, HST.out⟩
  case round =>
    obtain ⟨ts, xs, s', f, hI⟩ := hrel
    have hmeas := hI.at_.meas
    have h1 := HFIN.out _ _ hI.gb hI.at_
    cases hk : fin s' with
    | true =>
      have he := hI.eq
      rw [stF_fin hk, List.append_nil] at he
      rw [hk] at h1
      have HI := Lib.hid hI
      have HE := Lib.hid he
      clear hk hI he hmeas
      go_wp2_with (go_at_call 138; (with_reducible refine h1.mono ?_); rintro e w3 ⟨rfl, hb3⟩; have HB3 := Lib.hid hb3; clear hb3)
      go_ret
      rw [HE.out]
      exact ⟨_, xs, rfl, HI.out.gr.frame (GB.of HB3.out) hgl, HI.out.len.1, HI.out.at_.below HB3.out, HI.out.gb.trans (GB.of HB3.out)⟩
    | false =>
      rw [hk] at h1
      by_cases hf : s'.fault = 0
      · have hk1 : (s'.fault == 0) = true := by rw [hf]; rfl
        have hfail := fun (W : World) (ha : At g d s' W) => failed_any ha
        rw [hk1] at hfail
        have hfu := hI.fu hf
        obtain ⟨f', rfl⟩ : ∃ f', f = f' + 1 := ⟨f - 1, by omega⟩
        have he := hI.eq
        obtain ⟨Y, hY⟩ : ∃ Y, L.st s' = Y := ⟨_, rfl⟩
        rw [stF_cons hk hf, hY] at he
        have hadv := hL.ad.st s' hI.at_.ok
        have hpr := hL.ad.pr s' hI.at_.ok hf
        rw [hY] at hadv hpr
        rw [if_pos hf] at hmeas
        have HI := Lib.hid hI
        have HE := Lib.hid he
        have HY := Lib.hid hY
        have HV := Lib.hid hadv
        have HP := Lib.hid hpr
        have HF := Lib.hid hfu
        have HFF := Lib.hid hf
        have hn1 : ts.length + 1 ≤ 200000 := by have := hI.len.1; omega
        clear hk hI he hY hadv hfu hpr hf
        go_wp2_with (first | (go_at_call 138; (with_reducible refine h1.mono ?_); rintro e w2 ⟨rfl, hb2⟩; have h3 := hfail _ (HI.out.at_.below hb2); have HB2 := Lib.hid hb2; clear hb2) | (go_at_call 25; (with_reducible refine h3.mono ?_); rintro e w3 ⟨rfl, hb3⟩; have hb := (HB2.out.trans (hb3.mono HB2.out.size)); have h4 := hL.st (HI.out.at_.below hb) (HI.out.gx.gb (GB.of hb)); have HB3 := Lib.hid hb; clear hb3 hb) | (go_at_call 44; (with_reducible refine h4.mono ?_); rintro e w4 ⟨N4, rfl, hr4, ha4, hg4⟩; refine Hid.out ?_))
        refine Lib.hid ?_
        rw [HY.out] at hr4 ha4
        have hg3 := GB.of (g := g) HB3.out
        have hgr := (HI.out.gr.frame hg3 hgl).frame hg4 hgl
        have hgb4 := (HI.out.gb.trans hg3).trans hg4
        have hs3 : w.heap.size ≤ w3.heap.size := Nat.le_trans HI.out.gb.size hg3.size
        have hs4 : w.heap.size ≤ w4.heap.size := Nat.le_trans hs3 hg4.size
        have hgr3 := HI.out.gr.frame hg3 hgl
        have hrT := hgr3.fresh hs3 hr4
        have hown := (hgr.alloc (.cells (ncells [N4]).toArray 27)).own
        have HT := Lib.hid (Rep.keep (w' := w4.alloc (.cells (ncells [N4]).toArray 27)) (fun b hb hS => ⟨hS, heap_alloc_old _ _ hb⟩) _ _ hrT)
        have HGR := Lib.hid (hgr.alloc (.cells (ncells [N4]).toArray 27))
        have HA4 := Lib.hid (ha4.alloc (.cells (ncells [N4]).toArray 27))
        have HG4 := Lib.hid (hgb4.trans (GB.of (bel1 (o := .cells (ncells [N4]).toArray 27))))
        clear hr4 ha4 hg4 hgr hgb4 hgr3 hrT h1 h3 h4 hg3
        go_wp2_with (at_builtin; refine wpList_append_own_at _ rfl _ _ 25 rfl w.heap.size 27 i0 (.agg (ncs zeroN)) 5 80 Tryz.underlying25 hi hz0 hz1 hz2 zeroN_cells (by decide) _ _ _ rfl hown ⟨w4.heap.size, 0, none⟩ 1 1 (ncs N4).toList rfl (ncs_list N4) (new_cellsN w4 N4) (ncs_one' N4) (by unfold maxLen; omega) (by omega) (by simp; omega) ?_; intro v5 w5 hown5 hgrow5 _ hat5; refine Hid.out ?_)
        refine Lib.hid ?_
        have hgr5 := HGR.out.snoc HT.out hown5 hgrow5 hat5
        have ha5 := HA4.out.grown hgrow5 (by decide) HGR.out.own hgl
        have hgb5 := GB.grown HG4.out hgrow5 (fun b hb => (HGR.out.own.lt b hb).1)
        have HGR5 := Lib.hid hgr5
        have HA5 := Lib.hid ha5
        have HGB5 := Lib.hid hgb5
        clear hown5 hgrow5 hgr5 ha5 hgb5 hown hat5
        go_wp2
        go_roundw
        case rel =>
          refine ⟨ts ++ [Y.1], xs ++ [N4], Y.2, f', HA5.out, HX0.out.gb HGB5.out, HGB5.out, HGR5.out, ?_, ?_, ?_⟩
          · intro h0; have := HP.out; have := HF.out; omega
          · have := HI.out.len; have := this.2 HFF.out; have hp := HI.out.at_.ok.pos
            refine ⟨by simp; omega, fun h0 => ?_⟩
            have := HP.out; simp; omega
          · rw [HE.out]; simp
        case measure =>
          rw [HA5.out.meas, hmeas]
          have := HP.out
          split <;> omega
      · have hk1 : (s'.fault == 0) = false := by simpa using hf
        have hfail := fun (W : World) (ha : At g d s' W) => failed_any ha
        rw [hk1] at hfail
        have he := hI.eq
        rw [stF_bad hf, List.append_nil] at he
        have HI := Lib.hid hI
        have HE := Lib.hid he
        clear hk hI he hmeas hf
        go_wp2_with (first | (go_at_call 138; (with_reducible refine h1.mono ?_); rintro e w2 ⟨rfl, hb2⟩; have h3 := hfail _ (HI.out.at_.below hb2); have HB2 := Lib.hid hb2; clear hb2) | (go_at_call 25; (with_reducible refine h3.mono ?_); rintro e w3 ⟨rfl, hb3⟩; have HB3 := Lib.hid (HB2.out.trans (hb3.mono HB2.out.size)); clear hb3))
        go_ret
        rw [HE.out]
        exact ⟨_, xs, rfl, HI.out.gr.frame (GB.of HB3.out) hgl, HI.out.len.1, HI.out.at_.below HB3.out, HI.out.gb.trans (GB.of HB3.out)⟩

end Go.Proofs.YtkknglmpdmhhjaaGreatDoor.Pa

/-
  block, function: lists as kids.
-/
namespace Go.Proofs.YtkknglmpdmhhjaaGreatDoor.Pa
open Go Go.RowKit Go.Proofs.YtkknglmpdmhhjaaGreatDoor.Lx Go.Proofs.YtkknglmpdmhhjaaGreatDoor.Uni
set_option linter.unusedVariables false
set_option linter.unusedSimpArgs false
attribute [local go_sem ↓] ldK stK alK bdK bsK ldN stN alN bdN bsN
attribute [local irreducible] kcs ncs ncells
attribute [local go_sem] run_alK run_bdK0 run_bdKs run_bdKn run_bdKe run_bsK run_fdK0 run_fdK1 run_fdK2 run_fdK3 run_fdN4 run_alN run_stNg run_ldNg run_bdN0 run_bdN04 run_bdN02 run_bdN01 run_bdN024 run_bdN03 run_bdN0234 run_bsN1 run_bsN2 run_bsN3

section
variable {g d : Nat} {s : PS} {S0 : Nat → Prop} {w0 W : World} {bs : List (Nat × Nd)} {vs : List (Tree × Nd)}
theorem Env.lift (E : Env g d s S0 w0 W bs vs) {b : Nat} (hb : W.heap.size ≤ b) : Own S0 w0.heap.size (bs.map Prod.fst) b := by
  refine ⟨.inr (Nat.le_trans E.size hb), fun hm => ?_⟩
  obtain ⟨x, hx, rfl⟩ := List.mem_map.1 hm
  have := (E.bl x hx).2.lt
  omega
theorem Env.callL {d' : Nat} {R : List Tree × PS} {w' : World} {e : Ending} (E : Env g d s S0 w0 W bs vs) (h : PostL g d' W R e w') (k n : Int) (t : ByteArray) : ∃ S : Sl, e = .returned (.slice S.a S.n S.c) ∧ Env g d' R.2 S0 w0 w' bs ((.mk k n t [] R.1, ⟨k, n, t, nilSl, S⟩) :: vs) := by
  obtain ⟨v, xs, he, hgr, hl, ha, hg⟩ := h
  obtain ⟨S, hv, hrow, hrp⟩ := hgr.row
  subst hv
  refine ⟨S, he, (E.frame ha hg).add (Rep.of (xs := xs) ?_ ?_)⟩
  · exact hrow.keep (fun b hb hS => ⟨E.lift hS, rfl⟩)
  · exact Reps.keep (fun b hb hS => ⟨E.lift hS, rfl⟩) _ _ hrp
theorem Env.callLS {d' : Nat} {R : List ByteArray × PS} {w' : World} {e : Ending} (E : Env g d s S0 w0 W bs vs) (h : PostLS g d' W R e w') (k n : Int) (t : ByteArray) : ∃ S : Sl, e = .returned (.slice S.a S.n S.c) ∧ Env g d' R.2 S0 w0 w' bs ((.mk k n t R.1 [], ⟨k, n, t, S, nilSl⟩) :: vs) := by
  obtain ⟨v, he, hgr, hl, ha, hg⟩ := h
  obtain ⟨S, hv, hrow⟩ := hgr.row
  subst hv
  refine ⟨S, he, (E.frame ha hg).add ?_⟩
  unfold Rep
  refine ⟨rfl, rfl, rfl, hrow.keep (fun b hb hS => ⟨E.lift hS, rfl⟩), [], by rw [ncells_nil]; exact Row.nil _ _ _ _, by unfold Reps; trivial⟩
/-- Names of one, kids of another. -/
theorem Env.func (E : Env g d s S0 w0 W bs vs) {k n : Int} {t : ByteArray} {ns : List ByteArray} {S : Sl} {T : Tree} {N : Nd} (h1 : (.mk k n t ns [], ⟨k, n, t, S, nilSl⟩) ∈ vs) (h2 : (T, N) ∈ vs) : Env g d s S0 w0 W bs ((.mk k n t ns T.kids, ⟨k, n, t, S, N.kids⟩) :: vs) := by
  have r1 := E.rp _ h1
  unfold Rep at r1
  obtain ⟨-, -, -, r2, -⟩ := r1
  obtain ⟨xs, r3, r4⟩ := (E.rp _ h2).ks
  refine E.add ?_
  unfold Rep
  exact ⟨rfl, rfl, rfl, r2, xs, r3, r4⟩
theorem Env.kidsOf (E : Env g d s S0 w0 W bs vs) {T : Tree} {N : Nd} (h2 : (T, N) ∈ vs) (k n : Int) (t : ByteArray) : Env g d s S0 w0 W bs ((.mk k n t [] T.kids, ⟨k, n, t, nilSl, N.kids⟩) :: vs) := by
  obtain ⟨xs, r3, r4⟩ := (E.rp _ h2).ks
  exact E.add (Rep.of r3 r4)
end
theorem PostL.gb {g d : Nat} {w w' : World} {R : List Tree × PS} {e : Ending} (h : PostL g d w R e w') : GB g w w' := by
  obtain ⟨_, _, _, _, _, _, hg⟩ := h
  exact hg
theorem mkFn (fn : Fn) (first cap : Array Value) (w : World) : (Instr.makeFunc fn first cap).run Tryz.prog w = .ok (.func fn first cap) w := rfl

set_option maxRecDepth 100000 in
set_option maxHeartbeats 4000000 in
theorem blkfin_any {g d bb : Nat} {s : PS} {w : World} (h : At g d s w) (hc : w.cell? ⟨bb, 0, none⟩ = some (.pointer (some ⟨g, 0, none⟩))) :
    Calls Tryz.prog 138 #[.pointer (some ⟨bb, 0, none⟩)] w (PostR w (.bool (seesF ⟨#[125]⟩ s))) := by
  have hs := sees_any h ⟨#[125]⟩
  clear h
  go_enter Tryz.func138, Tryz.ntmps138
  go_wp2_with (go_at_call 84; (with_reducible refine hs.mono ?_); rintro e w1 ⟨rfl, hb⟩; have HB := Lib.hid hb; clear hb)
  go_ret
  exact ⟨rfl, HB.out⟩

set_option maxRecDepth 100000 in
set_option maxHeartbeats 4000000 in
theorem block_any {d : Nat} {L : Low} (hL : LowC d L) {g : Nat} {s : PS} {w : World} (h : At g d s w) (hX : Gx g w) :
    Calls Tryz.prog 85 #[.pointer (some ⟨g, 0, none⟩)] w (PostN g d w (blockF L s)) := by
  have hgl := h.lt
  have E0 := ((Env.start h hX).alloc (.cells #[.pointer (some ⟨g, 0, none⟩)] 82)).newAt zeroN (b := w.heap.size + 1) (by simp)
  have hb0 : Blk ((w.alloc (.cells #[.pointer (some ⟨g, 0, none⟩)] 82)).alloc (.cells (ncs zeroN) 27)) w.heap.size #[.pointer (some ⟨g, 0, none⟩)] 82 := (Blk.new w _ _).old _
  have k0 := hb0.cell 0
  have hn := needs_any E0.at_ ⟨#[123]⟩
  have hmf := mkFn
  have HB0 := Lib.hid hb0
  have HE0 := Lib.hid E0
  clear E0 h hX hb0
  go_enter Tryz.func85, Tryz.ntmps85
  go_wp2_with (first | (go_at_call 93; (with_reducible refine hn.mono ?_); intro e w1 hp; have hb1 := HB0.out.gb hp.2.2 (by omega); have k1 := hb1.cell 0; obtain ⟨rfl, E1⟩ := HE0.out.call hp; have h2 := stmts_blk hL (bb := w.heap.size) E1.at_ E1.gx (fun s' W hg ha => blkfin_any ha ((hb1.gb hg (by omega)).cell 0)); have HB1 := Lib.hid hb1; have HE1 := Lib.hid E1; clear hp E1 hb1) | (go_at_call 23; (with_reducible refine h2.mono ?_); intro e w2 hp; have hb2 := HB1.out.gb (PostL.gb hp) (by omega); have k2 := (Blk.cell hb2 0); obtain ⟨S2, rfl, E2⟩ := HE1.out.callL hp 40 0 noS; have h3 := needs_any E2.at_ ⟨#[125]⟩; have HE2 := Lib.hid E2; clear hp E2 hb2) | (go_at_call 93; (with_reducible refine h3.mono ?_); intro e w3 hp; obtain ⟨rfl, E3⟩ := HE2.out.call hp; have s3 := fun o M => (E3.alloc o).sto 0 rfl M; have HE3 := Lib.hid E3; clear hp E3) | (go_at_call 22; (with_reducible refine (node_any _ _ _ _ _).mono ?_); rintro e wn ⟨rfl, rfl⟩))
  exact ((((HE3.out.alloc _).store 0 rfl _).fin List.mem_cons_self List.mem_cons_self rfl rfl))

set_option maxRecDepth 100000 in
set_option maxHeartbeats 4000000 in
theorem func_any {d : Nat} {L : Low} (hL : LowC d L) {g : Nat} {s : PS} {w : World} (h : At g d s w) (hX : Gx g w) (nm : ByteArray) :
    Calls Tryz.prog 87 #[.pointer (some ⟨g, 0, none⟩), .string nm] w (PostN g d w (funcF L nm s)) := by
  have E0 := (Env.start h hX).new zeroN
  have hn := needs_any E0.at_ ⟨#[40]⟩
  have hmf := mkFn
  have HE0 := Lib.hid E0
  clear E0 h hX
  go_enter Tryz.func87, Tryz.ntmps87
  go_wp2_with (first | (go_at_call 93; (with_reducible refine hn.mono ?_); intro e w1 hp; obtain ⟨rfl, E1⟩ := HE0.out.call hp; have h2 := names_any ⟨#[41]⟩ E1.at_ E1.gx; have HE1 := Lib.hid E1; clear hp E1) | (go_at_call 140; (with_reducible refine h2.mono ?_); intro e w2 hp; obtain ⟨S2, rfl, E2⟩ := HE1.out.callLS hp  14 0 nm; have h3 := block_any hL E2.at_ E2.gx; have HE2 := Lib.hid E2; clear hp E2) | (go_at_call 85; (with_reducible refine h3.mono ?_); intro e w3 hp; obtain ⟨N3, rfl, E3⟩ := HE2.out.callN hp; have s3 := E3.sto 0 rfl; have HE3 := Lib.hid E3; clear hp E3))
  have E4 := HE3.out.func (List.mem_cons_of_mem _ List.mem_cons_self) List.mem_cons_self
  exact ((E4.store 0 rfl _).fin List.mem_cons_self List.mem_cons_self rfl rfl)

end Go.Proofs.YtkknglmpdmhhjaaGreatDoor.Pa
