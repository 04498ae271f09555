/-
  Texts of this seat in build order: MwFail2, MwDo, MwFm, MwGetR, MwStep.
-/
import Derived.Test.YtphaefkaeinngaaGreatDoorMy15
import Derived.Test.YtphaefkaeinngaaGreatDoorMy13
/-
  create and Fail, whether there is room or not.
-/
namespace Go.Proofs.YtphaefkaeinngaaGreatDoor.Mw
open Go Go.RowKit Go.Maps Go.Shelf Go.Proofs.YtphaefkaeinngaaGreatDoor.Keys Go.Proofs.YtphaefkaeinngaaGreatDoor.Hp Go.Proofs.YtphaefkaeinngaaGreatDoor.Mo
open Go.Proofs.YtphaefkaeinngaaGreatDoor.Des (Vl Ds zeroV zeroD dcs dcs_size dcs_one accF rigF appF eqV)
open Go.Proofs.YtphaefkaeinngaaGreatDoor.Arrs (En ecs)
set_option linter.unusedVariables false
set_option linter.unusedSimpArgs false
attribute [local go_sem ↓] ldR stR alR bxR bdR ldV stV alV bxV bdV bdT
attribute [local irreducible] rcs dcs ecs vcs tcs
attribute [local go_sem] run_bx run_alR run_alV run_bdR0 run_bdRf run_bdV0 run_bdTn
section
variable {X : Cx} {c : Nat} {M : Wm} {w w' : World} {A : Aw}
set_option maxRecDepth 100000 in
set_option maxHeartbeats 2000000 in
theorem create_full (h : WIs X c M w A) (kd : Int) (pv : Vl) (pa : Option Addr) (pc n : Nat) (hr : A.room ≤ (A.objs.length : Int)) :
    Calls Tryz.prog 54 #[ptr X.wb, .int .i64 kd, .agg (vcs pv), .slice pa n pc] w (CreP X c M w ((zeroV, flowR 3), A)) := by
  obtain ⟨w1, hw1⟩ : ∃ w1, ((w.alloc (.cells (vcs pv) 30)).alloc (.cells (vcs zeroV) 30)).alloc (.cells (rcs zeroR) 57) = w1 := ⟨_, rfl⟩
  have k1 : w1.heap.size = w.heap.size + 3 := by rw [← hw1]; simp
  have b1 : Below w.heap.size w w1 := by rw [← hw1]; exact (((Below.refl _ w).alloc (Nat.le_refl _) _).alloc (by simp) _).alloc (by simp; omega) _
  have x0 : Blk w1 w.heap.size (vcs pv) 30 := by rw [← hw1]; exact ((Blk.new w _ _).old _).old _
  have x1 : Lo (M.bl X.wb) w w1 (w.heap.size + 1) (vcs zeroV) 30 := by rw [← hw1]; exact ⟨(blk_newg (by simp)).old _, h.new (by omega), by omega⟩
  have x2 : Lo (M.bl X.wb) w w1 (w.heap.size + 2) (rcs zeroR) 57 := by rw [← hw1]; exact ⟨blk_newg (by simp), h.new (by omega), by omega⟩
  have lv := run_ldVp x0.drew
  have h1 := (h.call b1).drew
  have hst := store_world X.wb M.hb X.cl A.fuel A.deep A.depth A.deepest M.ls w1.drew h1.wblk
  obtain ⟨a, cc, hos⟩ := h1.os_shape
  have hhb := h1.hblk
  rw [hos] at hhb
  have hmk := make_full M.hb A.room a A.objs.length cc A.sy (newT kd pv (.slice pa n pc)) w1.drew hhb hr
  have hbd : ∀ w' : World, (Bd 39 #[(0, .int .i64 kd), (1, .agg (vcs pv)), (2, .bool true), (3, .slice pa n pc)]).run Tryz.prog w' = .ok (.agg (tcs (newT kd pv (.slice pa n pc)))) w' := fun w' => run_bdTn w' kd pv true pa n pc
  have X1 := Lib.hid x1.drew
  have X2 := Lib.hid x2.drew
  have B1 := Lib.hid (show Below w.heap.size w w1.drew from b1.drew)
  have H1 := Lib.hid h1
  have H0 := Lib.hid (show X.W0.heap.size ≤ w.heap.size from h.bel.size)
  clear h hr x0 x1 x2 b1 h1 hos hhb
  go_enter Tryz.func54, Tryz.ntmps54
  go_wp2
  go_region_with (first | (go_at_call 52; refine hst.mono ?_; rintro e w2 ⟨rfl, rfl⟩) | (go_at_call 14; refine hmk.mono ?_; rintro e w4 ⟨rfl, hb4⟩))
  all_goals
    have y1 := X1.out.call hb4
    have y2 := X2.out.call hb4
    have H4 := Lib.hid (H1.out.call hb4)
    have N4 := Lib.hid (Nx.from B1.out (Nx.of_below (B := M.bl X.wb) hb4))
    have s1 := run_stVp (v := zeroV) y1.blk
    have z3 := y1.row (vcs zeroV)
    have z4 := y2.row_other (vcs zeroV) (by omega : w.heap.size + 2 ≠ w.heap.size + 1)
    have s2 := run_stRp z4.blk (r := (flowR 3).mem nilS) ⟨_, _, _, rfl⟩
    have Y1 := Lib.hid y1
    have Z3 := Lib.hid z3
    have Z4 := Lib.hid z4
    clear hb4 hst hmk lv hbd hw1 y1 y2 z3 z4
    go_wp2
    have z5 := Z3.out.row_other (rcs ((flowR 3).mem nilS)) (by omega : w.heap.size + 1 ≠ w.heap.size + 2)
    refine bodyPost_ret (res_VR rfl _ _ (w.heap.size + 1) (w.heap.size + 2) zeroV ((flowR 3).mem nilS) rfl rfl z5.blk (Z4.out.blk.row _)) rfl ⟨M, rfl, ?_, ?_⟩
    · exact (H4.out.rowL Y1.out _ H0.out).rowL Z4.out _ H0.out
    · exact (N4.out.row _ (by omega)).row _ (by omega)
theorem CreP.less {R : (Vl × Rr) × Aw} {e : Ending} (h : CreP X (c + 1) M w R e w') : CreP X c M w R e w' := by
  obtain ⟨M', h1, h2, h3⟩ := h
  exact ⟨M', h1, h2.less (by omega), h3⟩
theorem create_any (h : WIs X (c + 1) M w A) (kd : Int) (pv : Vl) (pa : Option Addr) (pc : Nat) (es : List En) (hes : Hp.EsAt w.heap.size pa es w) (hf : ∀ e ∈ es, Fine (ekey e)) (hn : (es.map ekey).Nodup) (hc : es.length + 8 * A.fuel.toNat + c ≤ 900000) (hk : X.px = false → kd ≠ 4) :
    Calls Tryz.prog 54 #[ptr X.wb, .int .i64 kd, .agg (vcs pv), .slice pa es.length pc] w (CreP X c M w (createF kd pv es A)) := by
  unfold createF
  by_cases hr : (A.objs.length : Int) < A.room
  · rw [if_pos hr]
    exact create_room h kd pv pa pc es hes hf hn hc hk hr
  · rw [if_neg hr]
    exact (create_full h kd pv pa pc es.length (by omega)).mono fun e w' h => h.less
theorem fine_name : Fine (nameK.1, nameK.2) := ⟨by decide, by decide, by decide⟩
theorem fail_any (h : WIs X (c + 1) M w A) (nm : ByteArray) : Calls Tryz.prog 34 #[ptr X.wb, .string nm] w (FailP X c M w (failF nm A).1 (failF nm A).2) := by
  obtain ⟨es, hes⟩ : ∃ es : List En, es = [⟨nameK.1, nameK.2, wholeD ⟨4, 0, nm⟩ true false true⟩] := ⟨_, rfl⟩
  have hfew := h.few
  have hlen : es.length = 1 := by rw [hes]; rfl
  have key : ∀ W g, Below (w.heap.size + 2) (((w.alloc (.cells (rcs zeroR) 57)).alloc (.cells (vcs ⟨4, 0, nm⟩) 30)).drew) W → Blk W g (ecs ⟨⟨#[110, 97, 109, 101]⟩, 0, dataD ⟨4, 0, nm⟩ true false true⟩) 36 → w.heap.size + 2 ≤ g →
      Calls Tryz.prog 54 #[ptr X.wb, .int .i64 5, .agg (vcs ⟨1, 0, ⟨#[]⟩⟩), .slice (some ⟨g, 0, none⟩) 1 1] W (CreP X c M W (createF 5 nullV es A)) := by
    intro W g hW hg hlt
    have hW' : Below w.heap.size w W := ((((Below.refl _ w).alloc (Nat.le_refl _) (.cells (rcs zeroR) 57)).alloc (by simp) (.cells (vcs ⟨4, 0, nm⟩) 30)).drew).trans (hW.mono (by omega))
    have := create_any (h.call hW') 5 nullV (some ⟨g, 0, none⟩) 1 es (fun j e he => ?_) (fun e he => ?_) (by rw [hes]; simp) (by rw [hlen]; omega) (fun _ => by decide)
    · rw [hlen] at this
      exact this
    · rw [hes] at he
      cases j with
      | zero =>
        simp at he
        subst he
        exact ⟨g, 0, rfl, hg.lt, by rw [Nat.zero_mul, Nat.zero_add]; exact hg.range (r := []) (List.append_nil _).symm⟩
      | succ j => simp at he
    · rw [hes] at he
      rw [List.mem_singleton.1 he]
      exact fine_name
  have := fail_run h nm (createF 5 nullV es A).1.1 (createF 5 nullV es A).1.2 (A' := (createF 5 nullV es A).2) key
  unfold failF
  rw [← hes]
  exact this
end
end Go.Proofs.YtphaefkaeinngaaGreatDoor.Mw

/-
  The inner method as a contract; ask, getOf, inherited.
-/
namespace Go.Proofs.YtphaefkaeinngaaGreatDoor.Mw
open Go Go.RowKit Go.Maps Go.Shelf Go.Proofs.YtphaefkaeinngaaGreatDoor.Keys Go.Proofs.YtphaefkaeinngaaGreatDoor.Hp Go.Proofs.YtphaefkaeinngaaGreatDoor.Mo
open Go.Proofs.YtphaefkaeinngaaGreatDoor.Des (Vl Ds zeroV zeroD dcs dcs_size dcs_one accF rigF appF eqV)
open Go.Proofs.YtphaefkaeinngaaGreatDoor.Arrs (En ecs)
set_option linter.unusedVariables false
set_option linter.unusedSimpArgs false
def lim (X : Cx) : Nat := 1000000 + 100000 * X.dp.toNat
def DoIs (X : Cx) (D : DoT) : Prop := ∀ (c : Nat) (M : Wm) (w : World) (A : Aw) (m o : Int) (a : Aq) (al : Value), WIs X (c + 1) M w A → Fine a.k → VsOut (M.bl X.wb) w al a.l → a.l.length ≤ lim X →
  Calls Tryz.prog 16 #[ptr X.wb, .int .i64 m, .int .i64 o, .agg (acs a al)] w (Post X c M w (D m o a A))
section
variable {X : Cx} {c : Nat} {M : Wm} {w w' : World} {A : Aw} {D : DoT}
theorem fail_abr (nm : ByteArray) (A : Aw) : abr (failF nm A).1 = true := by
  unfold failF
  split
  rename_i e r A' h
  cases hr : abr r
  · simp; rfl
  · simpa using hr
theorem FailP.post {nm : ByteArray} {e : Ending} (h : FailP X c M w (failF nm A).1 (failF nm A).2 e w') : Post X c M w (failF nm A) e w' := by
  obtain ⟨M', h1, h2, h3⟩ := h
  have hks : (failF nm A).1.ks = [] := by
    unfold failF createF
    by_cases hr : (A.objs.length : Int) < A.room
    · simp [hr, abr, zeroRr, thrown]
    · simp [hr, abr, flowR, zeroRr]
  refine ⟨M', nilS, h1, by rw [hks]; exact KsOut.nil _ _, ?_, h3⟩
  unfold cr
  rw [fail_abr]
  exact h2
theorem Post.lay {R : Rr × Aw} {w1 w2 : World} {M' : Wm} {kv : Value} {N : Nat} (hb : Below w.heap.size w w1) (h0 : X.W0.heap.size ≤ w.heap.size) (hk : KsOut (M'.bl X.wb) w2 kv R.1.ks) (hM : WIs X (cr R.1 c) M' w2 R.2) (hn : Nx (M.bl X.wb) w1 (M'.bl X.wb) w2) {cs : Array Value} {t : TypeId} (hN : Lo (M'.bl X.wb) w w2 N cs t) (ht : t ≠ 32) :
    Post X c M w R (.returned (.agg (rcs (R.1.mem kv)))) (w2.setRow N (rcs (R.1.mem kv))) :=
  ⟨M', kv, rfl, hk.row hN.blk ht _, hM.rowL hN _ h0, (Nx.from hb hn).row _ hN.low⟩
theorem Rr.good (r : Rr) {B : List Nat} {w : World} {kv : Value} (h : KsOut B w kv r.ks) : (r.mem kv).good := by
  obtain ⟨a, cc, e, -⟩ := h
  exact ⟨_, _, _, e⟩
attribute [local go_sem ↓] ldR stR alR bxR bdR ldV stV alV bxV bdV ldA stA bxA bdA
attribute [local irreducible] rcs dcs ecs vcs acs kcs
attribute [local go_sem] run_bx run_alR
set_option maxRecDepth 100000 in
set_option maxHeartbeats 2000000 in
theorem ask_any (HD : DoIs X D) (h : WIs X (c + 1) M w A) (m : Int) (v : Vl) (a : Aq) (al : Value) (hk : Fine a.k) (hl : VsOut (M.bl X.wb) w al a.l) (hlen : a.l.length ≤ lim X) :
    Calls Tryz.prog 80 #[ptr X.wb, .int .i64 m, .agg (vcs v), .agg (acs a al)] w (Post X c M w (askF D m v a A)) := by
  obtain ⟨w1, hw1⟩ : ∃ w1, ((w.alloc (.cells (vcs v) 30)).alloc (.cells (acs a al) 52)).alloc (.cells (rcs zeroR) 57) = w1 := ⟨_, rfl⟩
  have k1 : w1.heap.size = w.heap.size + 3 := by rw [← hw1]; simp
  have b1 : Below w.heap.size w w1 := by rw [← hw1]; exact (((Below.refl _ w).alloc (Nat.le_refl _) _).alloc (by simp) _).alloc (by simp; omega) _
  have x0 : Blk w1 w.heap.size (vcs v) 30 := by rw [← hw1]; exact ((Blk.new w _ _).old _).old _
  have x1 : Blk w1 (w.heap.size + 1) (acs a al) 52 := by rw [← hw1]; exact (blk_newg (by simp)).old _
  have x2 : Lo (M.bl X.wb) w w1 (w.heap.size + 2) (rcs zeroR) 57 := by rw [← hw1]; exact ⟨blk_newg (by simp), h.new (by omega), by omega⟩
  have h1 := h.call b1
  have h0 := h.bel.size
  have c0 : w1.cell? ⟨w.heap.size, 0, none⟩ = some (.int .i64 v.k) := (x0.cell 0).trans (vcs_0 v)
  have c1 : w1.cell? ⟨w.heap.size, 1, none⟩ = some (.int .i64 v.n) := (x0.cell 1).trans (vcs_1 v)
  have la := run_ldAq x1
  have X2 := Lib.hid x2
  have B1 := Lib.hid b1
  have H0 := Lib.hid h0
  unfold askF
  by_cases hv : v.k = 6
  · rw [if_pos hv]
    have hd := HD c M w1 A m v.n a al h1 hk (hl.nx (Nx.of_below b1)) hlen
    have hne : (v.k != 6) = false := by simp [hv]
    have HVK := Lib.hid hv
    clear h hk hl hlen b1 h1 h0 x0 x1 x2 hv
    go_enter Tryz.func80, Tryz.ntmps80
    go_wp2_with (go_at_call 16; refine hd.mono ?_; rintro e w2 ⟨M', kv, rfl, hks, hM, hn⟩; have y2 := X2.out.nx hn; have s2 := run_stRp y2.blk (Rr.good _ hks); have Y2 := Lib.hid y2; have HK := Lib.hid hks; have HM := Lib.hid hM; have HN := Lib.hid hn; clear hks hM hn y2)
    refine bodyPost_ret (res_R rfl _ _ (w.heap.size + 2) _ rfl (Y2.out.blk.row _)) rfl ?_
    exact Post.lay B1.out H0.out HK.out HM.out HN.out Y2.out (by decide)
  · rw [if_neg hv]
    have hd := fail_any h1 typeErr
    have hne : (v.k != 6) = true := by simp [hv]
    have HVK := Lib.hid hv
    clear h hk hl hlen b1 h1 h0 x0 x1 x2 hv
    go_enter Tryz.func80, Tryz.ntmps80
    go_wp2_with (go_at_call 34; refine hd.mono ?_; intro e w2 hp; obtain ⟨M', kv, rfl, hks, hM, hn⟩ := FailP.post hp; have y2 := X2.out.nx hn; have s2 := run_stRp y2.blk (Rr.good _ hks); have Y2 := Lib.hid y2; have HK := Lib.hid hks; have HM := Lib.hid hM; have HN := Lib.hid hn; clear hks hM hn y2 hp)
    refine bodyPost_ret (res_R rfl _ _ (w.heap.size + 2) _ rfl (Y2.out.blk.row _)) rfl ?_
    exact Post.lay B1.out H0.out HK.out HM.out HN.out Y2.out (by decide)
end
end Go.Proofs.YtphaefkaeinngaaGreatDoor.Mw

/-
  A method's frame: the world as it is now, near the one at the beginning, with locals and lists of keys.
-/
namespace Go.Proofs.YtphaefkaeinngaaGreatDoor.Mw
open Go Go.RowKit Go.Maps Go.Shelf Go.Proofs.YtphaefkaeinngaaGreatDoor.Keys Go.Proofs.YtphaefkaeinngaaGreatDoor.Hp Go.Proofs.YtphaefkaeinngaaGreatDoor.Mo
open Go.Proofs.YtphaefkaeinngaaGreatDoor.Des (Vl Ds zeroV zeroD dcs dcs_size dcs_one accF rigF appF eqV)
open Go.Proofs.YtphaefkaeinngaaGreatDoor.Arrs (En ecs)
set_option linter.unusedVariables false
set_option linter.unusedSimpArgs false
structure Lc where
  b : Nat
  cs : Array Value
  t : TypeId
structure Fm (X : Cx) (c : Nat) (M : Wm) (w : World) (M' : Wm) (w' : World) (A' : Aw) (ls : List Lc) (kl : List (Value × List KV)) (ro : List Lc) : Prop where
  wis : WIs X c M' w' A'
  nx : Nx (M.bl X.wb) w (M'.bl X.wb) w'
  lo : ∀ x ∈ ls, Lo (M'.bl X.wb) w w' x.b x.cs x.t
  ks : ∀ k ∈ kl, KsOut (M'.bl X.wb) w' k.1 k.2
  h0 : X.W0.heap.size ≤ w.heap.size
  rd : ∀ x ∈ ro, Blk w' x.b x.cs x.t ∧ x.b ∉ M'.bl X.wb ∧ x.b < w.heap.size
  nd : (ls.map (·.b)).Nodup
section
variable {X : Cx} {c : Nat} {M M' M'' : Wm} {w w' w'' : World} {A A' A'' : Aw} {ls : List Lc} {kl : List (Value × List KV)} {ro : List Lc} {D : DoT}
theorem Fm.start (h : WIs X c M w A) : Fm X c M w M w A [] [] [] := ⟨h, Nx.refl _ _, (fun x h => by cases h), (fun x h => by cases h), h.bel.size, (fun x h => by cases h), by simp⟩
theorem Fm.with (F : Fm X c M w M' w' A' ls kl ro) {b : Nat} {cs : Array Value} {t : TypeId} (h : Blk w b cs t) (ho : b ∉ M.bl X.wb) : Fm X c M w M' w' A' ls kl (⟨b, cs, t⟩ :: ro) := ⟨F.wis, F.nx, F.lo, F.ks, F.h0, fun x hx => by
  rcases List.mem_cons.1 hx with rfl | hx
  · exact ⟨F.nx.blk h ho, F.nx.out h.lt ho, h.lt⟩
  · exact F.rd x hx, F.nd⟩
theorem Fm.r0 {x : Lc} {l : List Lc} (F : Fm X c M w M' w' A' ls kl (x :: l)) : Blk w' x.b x.cs x.t := (F.rd x (by simp)).1
theorem Fm.r0o {x : Lc} {l : List Lc} (F : Fm X c M w M' w' A' ls kl (x :: l)) : x.b ∉ M'.bl X.wb := (F.rd x (by simp)).2.1
theorem Fm.call (F : Fm X c M w M' w' A' ls kl ro) (hb : Below w'.heap.size w' w'') : Fm X c M w M' w'' A' ls kl ro := ⟨F.wis.call hb, F.nx.call hb, fun x hx => (F.lo x hx).call hb, fun k hk => (F.ks k hk).call hb, F.h0, fun x hx => let ⟨h1, h2, h3⟩ := F.rd x hx; ⟨h1.call hb, h2, h3⟩, F.nd⟩
theorem Fm.drew (F : Fm X c M w M' w' A' ls kl ro) : Fm X c M w M' w'.drew A' ls kl ro := F.call (Below.refl _ _).drew
theorem Fm.new (F : Fm X c M w M' w' A' ls kl ro) (cs : Array Value) (t : TypeId) : Fm X c M w M' (w'.alloc (.cells cs t)) A' (⟨w'.heap.size, cs, t⟩ :: ls) kl ro := by
  have hb := (Below.refl _ w').alloc (Nat.le_refl _) (.cells cs t)
  have F' := F.call hb
  refine ⟨F'.wis, F'.nx, fun x hx => ?_, F'.ks, F.h0, F'.rd, ?_⟩
  · rcases List.mem_cons.1 hx with rfl | hx
    · exact F.wis.lo F.nx.size cs t
    · exact F'.lo x hx
  · rw [List.map_cons, List.nodup_cons]
    refine ⟨fun hm => ?_, F.nd⟩
    obtain ⟨y, hy, e⟩ := List.mem_map.1 hm
    have := (F.lo y hy).blk.lt
    simp only at e
    omega
theorem Fm.next (F : Fm X c M w M' w' A' ls kl ro) {c2 : Nat} {A2 : Aw} {k2 : List (Value × List KV)} (hM : WIs X c2 M'' w'' A2) (hn : Nx (M'.bl X.wb) w' (M''.bl X.wb) w'') (hk : ∀ k ∈ k2, KsOut (M''.bl X.wb) w'' k.1 k.2) : Fm X c2 M w M'' w'' A2 ls (k2 ++ kl) ro :=
  ⟨hM, F.nx.trans hn, fun x hx => (F.lo x hx).nx hn, fun k hk' => by
    rcases List.mem_append.1 hk' with h | h
    · exact hk k h
    · exact (F.ks k h).nx hn, F.h0, fun x hx => let ⟨h1, h2, h3⟩ := F.rd x hx; ⟨hn.blk h1 h2, hn.out h1.lt h2, h3⟩, F.nd⟩
theorem Fm.post (F : Fm X (c + 1) M w M' w' A' ls kl ro) {R : Rr × Aw} {kv : Value} (hks : KsOut (M''.bl X.wb) w'' kv R.1.ks) (hM : WIs X (cr R.1 c) M'' w'' R.2) (hn : Nx (M'.bl X.wb) w' (M''.bl X.wb) w'') : Fm X (cr R.1 c) M w M'' w'' R.2 ls ((kv, R.1.ks) :: kl) ro :=
  F.next (k2 := [(kv, R.1.ks)]) hM hn fun k hk => by rw [List.mem_singleton.1 hk]; exact hks
theorem Fm.less (F : Fm X c M w M' w' A' ls kl ro) {c' : Nat} (h : c' ≤ c) : Fm X c' M w M' w' A' ls kl ro := ⟨F.wis.less h, F.nx, F.lo, F.ks, F.h0, F.rd, F.nd⟩
theorem Fm.ok {r : Rr} (F : Fm X (cr r c) M w M' w' A' ls kl ro) (h : abr r = false) : Fm X (c + 1) M w M' w' A' ls kl ro := by
  have e : cr r c = c + 1 := by unfold cr; rw [h]; rfl
  rw [e] at F
  exact F
theorem Fm.bad {r : Rr} (F : Fm X (cr r c) M w M' w' A' ls kl ro) : Fm X c M w M' w' A' ls kl ro := F.less (by unfold cr; split <;> omega)
theorem Fm.put {l r : List Lc} {x : Lc} (F : Fm X c M w M' w' A' (l ++ x :: r) kl ro) (ds : Array Value) (ht : x.t ≠ 32) : Fm X c M w M' (w'.setRow x.b ds) A' (l ++ ⟨x.b, ds, x.t⟩ :: r) kl ro := by
  have hx := F.lo x (by simp)
  have hnd := F.nd
  rw [List.map_append, List.map_cons, List.nodup_append, List.nodup_cons] at hnd
  have hl : ∀ y ∈ l, y.b ≠ x.b := fun y hy => hnd.2.2 y.b (List.mem_map.2 ⟨y, hy, rfl⟩) x.b (by simp)
  have hr : ∀ y ∈ r, y.b ≠ x.b := fun y hy e => hnd.2.1.1 (e ▸ List.mem_map.2 ⟨y, hy, rfl⟩)
  refine ⟨F.wis.rowL hx ds F.h0, F.nx.row ds hx.low, fun y hy => ?_, fun k hk => (F.ks k hk).row hx.blk ht ds, F.h0, fun y hy => let ⟨h1, h2, h3⟩ := F.rd y hy; ⟨h1.row_other ds (by have := hx.low; omega), h2, h3⟩, by
    have := F.nd
    rw [List.map_append, List.map_cons] at this ⊢
    exact this⟩
  rcases List.mem_append.1 hy with hy | hy
  · exact (F.lo y (by simp [hy])).row_other ds (hl y hy)
  · rcases List.mem_cons.1 hy with rfl | hy
    · exact hx.row ds
    · exact (F.lo y (by simp [hy])).row_other ds (hr y hy)
theorem Fm.l0 {x : Lc} {l : List Lc} (F : Fm X c M w M' w' A' (x :: l) kl ro) : Lo (M'.bl X.wb) w w' x.b x.cs x.t := F.lo x (by simp)
theorem Fm.l1 {x y : Lc} {l : List Lc} (F : Fm X c M w M' w' A' (y :: x :: l) kl ro) : Lo (M'.bl X.wb) w w' x.b x.cs x.t := F.lo x (by simp)
theorem Fm.l2 {x y z : Lc} {l : List Lc} (F : Fm X c M w M' w' A' (z :: y :: x :: l) kl ro) : Lo (M'.bl X.wb) w w' x.b x.cs x.t := F.lo x (by simp)
theorem Fm.l3 {x y z u : Lc} {l : List Lc} (F : Fm X c M w M' w' A' (u :: z :: y :: x :: l) kl ro) : Lo (M'.bl X.wb) w w' x.b x.cs x.t := F.lo x (by simp)
theorem Fm.l4 {x y z u v : Lc} {l : List Lc} (F : Fm X c M w M' w' A' (v :: u :: z :: y :: x :: l) kl ro) : Lo (M'.bl X.wb) w w' x.b x.cs x.t := F.lo x (by simp)
theorem Fm.k0 {k : Value × List KV} {l : List (Value × List KV)} (F : Fm X c M w M' w' A' ls (k :: l) ro) : KsOut (M'.bl X.wb) w' k.1 k.2 := F.ks k (by simp)
theorem Fm.k1 {k j : Value × List KV} {l : List (Value × List KV)} (F : Fm X c M w M' w' A' ls (j :: k :: l) ro) : KsOut (M'.bl X.wb) w' k.1 k.2 := F.ks k (by simp)
theorem Fm.fin {R : Rr × Aw} {kv : Value} (F : Fm X (cr R.1 c) M w M' w' R.2 ls kl ro) (hk : KsOut (M'.bl X.wb) w' kv R.1.ks) : Post X c M w R (.returned (.agg (rcs (R.1.mem kv)))) w' := ⟨M', kv, rfl, hk, F.wis, F.nx⟩
theorem Fm.fin1 {R : Rr × Aw} (F : Fm X (c + 1) M w M' w' R.2 ls kl ro) (hk : R.1.ks = []) : Post X c M w R (.returned (.agg (rcs (R.1.mem nilS)))) w' := ⟨M', nilS, rfl, by rw [hk]; exact KsOut.nil _ _, F.wis.less (by unfold cr; split <;> omega), F.nx⟩
theorem Fm.newg (F : Fm X c M w M' w' A' ls kl ro) (cs : Array Value) (t : TypeId) (g : Nat) (hg : g = w'.heap.size) : Fm X c M w M' (w'.alloc (.cells cs t)) A' (⟨g, cs, t⟩ :: ls) kl ro := hg ▸ F.new cs t
theorem Fm.vs (F : Fm X c M w M' w' A' ls kl ro) {al : Value} {l : List Vl} (h : VsOut (M.bl X.wb) w al l) : VsOut (M'.bl X.wb) w' al l := h.nx F.nx
end
theorem abr_at {r : Rr} {b : Bool} (hb : abr r = b) (k : Value) (w : World) : Calls Tryz.prog 36 #[.agg (rcs (r.mem k))] w fun e w' => e = .returned (.bool b) ∧ Below w.heap.size w w' := hb ▸ abr_any r k w
section
variable {w : World} {b : Nat} {r : Rr} {k : Value} {T : TypeId}
theorem rm_v (h : Blk w b (rcs (r.mem k)) T) : (Ld 30 (.pointer (some ⟨b, 1, none⟩))).run Tryz.prog w = .ok (.agg (vcs r.v)) w := rep_v h
theorem rm_d (h : Blk w b (rcs (r.mem k)) T) : (Ld 34 (.pointer (some ⟨b, 6, none⟩))).run Tryz.prog w = .ok (.agg (dcs r.d)) w := rep_d h
theorem rm_vk (h : Blk w b (rcs (r.mem k)) T) : w.cell? ⟨b, 1, none⟩ = some (.int .i64 r.v.k) := h.cell 1
theorem rm_ok (h : Blk w b (rcs (r.mem k)) T) : w.cell? ⟨b, 4, none⟩ = some (.bool r.ok) := h.cell 4
theorem rm_has (h : Blk w b (rcs (r.mem k)) T) : w.cell? ⟨b, 5, none⟩ = some (.bool r.has) := h.cell 5
end
section
variable {w : World} {b : Nat} {d : Ds} {T : TypeId}
theorem d_all (h : Blk w b (dcs d) T) : (Ld 34 (.pointer (some ⟨b, 0, none⟩))).run Tryz.prog w = .ok (.agg (dcs d)) w := run_ldDm (range_mid h [] (dcs d).toList [] (by simp))
theorem d_v (h : Blk w b (dcs d) T) : (Ld 30 (.pointer (some ⟨b, 6, none⟩))).run Tryz.prog w = .ok (.agg (vcs d.v)) w := run_ldVm (range_mid h [.bool d.hv, .bool d.hg, .bool d.hs, .bool d.hw, .bool d.he, .bool d.hc] (vcs d.v).toList _ rfl)
theorem d_g (h : Blk w b (dcs d) T) : (Ld 30 (.pointer (some ⟨b, 9, none⟩))).run Tryz.prog w = .ok (.agg (vcs d.g)) w := run_ldVm (range_mid h [.bool d.hv, .bool d.hg, .bool d.hs, .bool d.hw, .bool d.he, .bool d.hc, .int .i64 d.v.k, .int .i64 d.v.n, .string d.v.s] (vcs d.g).toList _ rfl)
theorem d_s (h : Blk w b (dcs d) T) : (Ld 30 (.pointer (some ⟨b, 12, none⟩))).run Tryz.prog w = .ok (.agg (vcs d.s)) w := run_ldVm (range_mid h [.bool d.hv, .bool d.hg, .bool d.hs, .bool d.hw, .bool d.he, .bool d.hc, .int .i64 d.v.k, .int .i64 d.v.n, .string d.v.s, .int .i64 d.g.k, .int .i64 d.g.n, .string d.g.s] (vcs d.s).toList _ rfl)
theorem d_gk (h : Blk w b (dcs d) T) : w.cell? ⟨b, 9, none⟩ = some (.int .i64 d.g.k) := h.cell 9
theorem d_sk (h : Blk w b (dcs d) T) : w.cell? ⟨b, 12, none⟩ = some (.int .i64 d.s.k) := h.cell 12
theorem d_w (h : Blk w b (dcs d) T) : w.cell? ⟨b, 15, none⟩ = some (.bool d.w) := h.cell 15
end
theorem rm_dw {w : World} {b : Nat} {r : Rr} {k : Value} {T : TypeId} (h : Blk w b (rcs (r.mem k)) T) : w.cell? ⟨b, 21, none⟩ = some (.bool r.d.w) := h.cell 21
theorem rm_dc {w : World} {b : Nat} {r : Rr} {k : Value} {T : TypeId} (h : Blk w b (rcs (r.mem k)) T) : w.cell? ⟨b, 23, none⟩ = some (.bool r.d.c) := h.cell 23
theorem x_num {w : World} {b : Nat} {o : Int} {t : Th} {T : TypeId} (h : Blk w b (xcs o t) T) : w.cell? ⟨b, 0, none⟩ = some (.int .i64 o) := h.cell 0
theorem x_ext {w : World} {b : Nat} {o : Int} {t : Th} {T : TypeId} (h : Blk w b (xcs o t) T) : w.cell? ⟨b, 5, none⟩ = some (.bool t.ext) := h.cell 5
theorem x_proto {w : World} {b : Nat} {o : Int} {t : Th} {T : TypeId} (h : Blk w b (xcs o t) T) : (Ld 30 (.pointer (some ⟨b, 2, none⟩))).run Tryz.prog w = .ok (.agg (vcs t.proto)) w := run_ldVm (range_mid h [.int .i64 o, .int .i64 t.kind] (vcs t.proto).toList _ rfl)
end Go.Proofs.YtphaefkaeinngaaGreatDoor.Mw

/-
  What Get gives, as rows of its own; handed over again.
-/
namespace Go.Proofs.YtphaefkaeinngaaGreatDoor.Mw
open Go Go.RowKit Go.Maps Go.Proofs.YtphaefkaeinngaaGreatDoor.Keys Go.Proofs.YtphaefkaeinngaaGreatDoor.Hp Go.Proofs.YtphaefkaeinngaaGreatDoor.Mo
open Go.Proofs.YtphaefkaeinngaaGreatDoor.Des (Vl Ds zeroV zeroD dcs dcs_size dcs_one)
open Go.Proofs.YtphaefkaeinngaaGreatDoor.Arrs (En ecs)
set_option linter.unusedVariables false
set_option linter.unusedSimpArgs false
structure GetOk (lo : Nat) (w : World) (x : Ob) (G : Th) : Prop where
  eq : bare G = x.th
  r1 : w.ownsRow lo 36 20 G.props x.es.length (Hp.cellsE x.es)
  r2 : w.ownsRow lo 30 3 G.args x.vs.length (cellsV x.vs)
section
variable {X : Cx} {c : Nat} {M : Wm} {w w' : World} {A : Aw} {lo : Nat} {x : Ob} {G : Th}
theorem GetOk.call (h : GetOk lo w x G) (hb : Below w.heap.size w w') : GetOk lo w' x G := ⟨h.eq, Hp.own_below h.r1 hb, Hp.own_below h.r2 hb⟩
theorem GetOk.row (h : GetOk lo w x G) {b : Nat} {cs : Array Value} {t : TypeId} (hb : Blk w b cs t) (h1 : t ≠ 36) (h2 : t ≠ 30) (ds : Array Value) : GetOk lo (w.setRow b ds) x G := ⟨h.eq, own_row h.r1 hb h1, own_row h.r2 hb h2⟩
theorem GetOk.mono {lo' : Nat} (h : GetOk lo w x G) (hl : lo' ≤ lo) : GetOk lo' w x G := ⟨h.eq, h.r1.mono hl, h.r2.mono hl⟩
theorem GetOk.ok (h : GetOk lo w x G) : G.ok := by
  obtain ⟨a, c, e⟩ := Hp.own_shape h.r1
  obtain ⟨a', c', e'⟩ := Hp.own_shape h.r2
  exact ⟨⟨a, _, c, e⟩, ⟨a', _, c', e'⟩⟩
theorem WIs.fit (h : WIs X c M w A) {o : Int} (hx : at? A o = some x) : x.th.props = nilS ∧ x.th.args = nilS ∧ (x.es.map ekey).Nodup ∧ (∀ e ∈ x.es, Fine (ekey e)) ∧ x.es.length + 8 * A.fuel.toNat + c ≤ 900000 ∧ x.vs.length ≤ 100000 ∧ (X.px = false → x.th.kind ≠ 4) := by
  obtain ⟨i, q, g, cc, rfl, hi, hq, hr, hos, hc, hlt⟩ := h.obj hx
  have hnum := h.num q (List.mem_of_getElem? hq)
  have hlen := hr.len
  refine ⟨hr.nop, hr.noa, ?_, hr.fine, by omega, hr.vlen, fun hp => h.nopx hp x (List.mem_of_getElem? hi)⟩
  have hn := hr.once.once
  rw [← hr.es, List.map_map]
  exact hn
theorem wGetR (h : WIs X c M w A) {o : Int} (hx : at? A o = some x) : Calls Tryz.prog 17 #[ptr M.hb, .int .i64 o] w fun e w' => ∃ G, e = .returned (.tuple #[.agg (tcs G), .bool true]) ∧ GetOk w.heap.size w' x G ∧ Below w.heap.size w w' := by
  obtain ⟨i, q, g, cc, rfl, hi, hq, hr, hos, hc, hlt⟩ := h.obj hx
  have hb := h.hblk
  rw [hos] at hb
  have hnum := h.num q (List.mem_of_getElem? hq)
  have hlen := hr.len
  have hvl := hr.vlen
  obtain ⟨aa, ac, hargs⟩ := Hp.own_shape hr.row
  have hrow := hr.row
  rw [hargs] at hrow
  have hvs := vsAt_own hrow
  have hat : ObjAt w 0 q.ob q.pb q.mb q.n { x.th with args := q.args } x.es x.vs q.ns := ⟨hr.blk, hr.nop, ⟨aa, _, ac, hargs⟩, hr.obj, hr.es, hr.row, fun _ _ => Nat.zero_le _, Nat.zero_le _, Nat.zero_le _, fun l x r e _ => hr.once.none x (by rw [e]; simp)⟩
  refine (get_some M.hb g q.ob q.pb q.mb q.n A.objs.length cc i 0 A.room A.sy _ x.es x.vs q.ns w hb hlt hc hat (by omega) (by omega) aa x.vs.length ac hargs fun w1 hb1 => clone_any aa _ ac x.vs w1 rfl (by omega) ((hvs.below hb1).mono hb1.size)).mono ?_
  rintro e w' ⟨a, c1, a', c', rfl, h1, h2, h3⟩
  refine ⟨_, rfl, ⟨?_, h1, h2⟩, h3⟩
  obtain ⟨t, es, vs⟩ := x
  have hp := hr.nop
  have ha := hr.noa
  simp only at hp ha
  unfold bare
  cases t
  simp only at hp ha
  subst hp ha
  rfl
theorem GetOk.give (h : GetOk lo w x G) {G' : Th} (e1 : G'.props = G.props) (e2 : G'.args = G.args) (hf : ∀ e ∈ x.es, Fine (ekey e)) (hl : x.es.length ≤ 900000) (hv : x.vs.length ≤ 100000) : Give w G' x.es x.vs := by
  obtain ⟨a, c, e⟩ := Hp.own_shape h.r1
  obtain ⟨a', c', e'⟩ := Hp.own_shape h.r2
  have r1 := h.r1
  have r2 := h.r2
  rw [e] at r1
  rw [e'] at r2
  exact ⟨⟨a, c, e1.trans e, Hp.esAt_own r1⟩, ⟨a', c', e2.trans e', vsAt_own r2⟩, hf, hl, hv⟩
theorem GetOk.args (h : GetOk lo w x G) (hM : WIs X c M w' A) (hlo : w'.heap.size ≤ lo) : VsOut (M.bl X.wb) w G.args x.vs := vs_own h.r2 fun b hb => hM.new (Nat.le_trans hlo hb)
end
def ThAt (X : Cx) (c : Nat) (M : Wm) (w : World) (M' : Wm) (A' : Aw) (x : Ob) (lo : Nat) (ls : List Lc) (kl : List (Value × List KV)) (ro : List Lc) (s1 s2 : Value) (wx : World) : Prop :=
  ∃ N G, s1 = ptr N ∧ s2 = .bool true ∧ GetOk lo wx x G ∧ Fm X c M w M' wx A' (⟨N, tcs G, 39⟩ :: ls) kl ro
section
variable {w : World} {b : Nat} {t : Th} {o : Int} {T : TypeId}
theorem t_proto  (h : Blk w b (tcs t) T) : (Ld 30 (.pointer (some ⟨b, 1, none⟩))).run Tryz.prog w = .ok (.agg (vcs t.proto)) w := run_ldVm (range_mid h [.int .i64 t.kind] (vcs t.proto).toList _ rfl)
theorem x_v  (h : Blk w b (xcs o t) T) : (Ld 30 (.pointer (some ⟨b, 9, none⟩))).run Tryz.prog w = .ok (.agg (vcs t.v)) w := run_ldVm (range_mid h [.int .i64 o, .int .i64 t.kind, .int .i64 t.proto.k, .int .i64 t.proto.n, .string t.proto.s, .bool t.ext, t.props, .int .i64 t.code, .int .i64 t.n] (vcs t.v).toList _ rfl)
theorem x_tg  (h : Blk w b (xcs o t) T) : (Ld 30 (.pointer (some ⟨b, 12, none⟩))).run Tryz.prog w = .ok (.agg (vcs t.tg)) w := run_ldVm (range_mid h [.int .i64 o, .int .i64 t.kind, .int .i64 t.proto.k, .int .i64 t.proto.n, .string t.proto.s, .bool t.ext, t.props, .int .i64 t.code, .int .i64 t.n, .int .i64 t.v.k, .int .i64 t.v.n, .string t.v.s] (vcs t.tg).toList _ rfl)
theorem x_ths  (h : Blk w b (xcs o t) T) : (Ld 30 (.pointer (some ⟨b, 18, none⟩))).run Tryz.prog w = .ok (.agg (vcs t.ths)) w := run_ldVm (range_mid h [.int .i64 o, .int .i64 t.kind, .int .i64 t.proto.k, .int .i64 t.proto.n, .string t.proto.s, .bool t.ext, t.props, .int .i64 t.code, .int .i64 t.n, .int .i64 t.v.k, .int .i64 t.v.n, .string t.v.s, .int .i64 t.tg.k, .int .i64 t.tg.n, .string t.tg.s, .int .i64 t.hd.k, .int .i64 t.hd.n, .string t.hd.s] (vcs t.ths).toList _ rfl)
theorem x_kind (h : Blk w b (xcs o t) T) : w.cell? ⟨b, 1, none⟩ = some (.int .i64 t.kind) := h.cell 1
theorem x_code (h : Blk w b (xcs o t) T) : w.cell? ⟨b, 7, none⟩ = some (.int .i64 t.code) := h.cell 7
theorem x_n (h : Blk w b (xcs o t) T) : w.cell? ⟨b, 8, none⟩ = some (.int .i64 t.n) := h.cell 8
theorem x_calls (h : Blk w b (xcs o t) T) : w.cell? ⟨b, 22, none⟩ = some (.bool t.calls) := h.cell 22
theorem x_makes (h : Blk w b (xcs o t) T) : w.cell? ⟨b, 23, none⟩ = some (.bool t.makes) := h.cell 23
theorem t_kind (h : Blk w b (tcs t) T) : w.cell? ⟨b, 0, none⟩ = some (.int .i64 t.kind) := h.cell 0
theorem t_ext (h : Blk w b (tcs t) T) : w.cell? ⟨b, 4, none⟩ = some (.bool t.ext) := h.cell 4
theorem t_args (h : Blk w b (tcs t) T) : w.cell? ⟨b, 20, none⟩ = some (t.args) := h.cell 20
theorem t_props (h : Blk w b (tcs t) T) : w.cell? ⟨b, 5, none⟩ = some (t.props) := h.cell 5
end
theorem run_stTk {w : World} {b : Nat} {o r : Th} (hb : Blk w b (tcs o) 39) (hr : r.ok) : (St 39 (.pointer (some ⟨b, 0, none⟩)) (.agg (tcs r))).run Tryz.prog w = .ok () (w.setRow b (tcs r)) :=
  run_st_row hb (by rw [tcs_size]; exact sizeT) (by rw [tcs_size, tcs_size]) (tcs_one hr)
def setL : Nat → List Value → Array Value → Array Value
  | _, [], cs => cs
  | i, v :: r, cs => setL (i + 1) r (cs.setIfInBounds i v)
theorem setRow_id {w : World} {b : Nat} {cs : Array Value} {t : TypeId} (hb : Blk w b cs t) : w.setRow b cs = w := by
  have h : w.heap[b]? = some (.cells cs t (0, 0)) := hb
  unfold World.setRow
  congr 1
  apply Array.ext_getElem?
  intro i
  rw [Array.getElem?_modify]
  by_cases e : b = i
  · subst e
    rw [if_pos rfl, h]
    rfl
  · rw [if_neg e]
section
variable {X : Cx} {c : Nat} {M M' M'' : Wm} {w w' w'' : World} {A A' A'' : Aw} {ls : List Lc} {kl : List (Value × List KV)} {ro : List Lc} {D : DoT}
theorem stW (h : WIs X c M w A) : Calls Tryz.prog 52 #[ptr X.wb] w fun e w' => e = .returned (ptr M.hb) ∧ w' = w := store_world X.wb M.hb X.cl A.fuel A.deep A.depth A.deepest M.ls w h.wblk
theorem below_rowW {B : Nat} {w w' : World} (h : Below B w w') {b : Nat} (cs : Array Value) (hb : B ≤ b) : Below B w (w'.setRow b cs) := by
  refine ⟨h.os, h.tape, h.output, ?_, fun c hc => (setRow_other w' b c cs (by omega)).trans (h.block c hc)⟩
  rw [size_setRow]
  exact h.size
theorem Fm.growW (F : Fm X c M w M' w' A' ls kl ro) (hb : Below w'.heap.size w' w'') {b : Nat} {cs : Array Value} {t : TypeId} (B : Blk w'' b cs t) (hlt : w'.heap.size ≤ b) : Fm X c M w M' w'' A' (⟨b, cs, t⟩ :: ls) kl ro := by
  have F' := F.call hb
  refine ⟨F'.wis, F'.nx, fun x hx => ?_, F'.ks, F.h0, F'.rd, ?_⟩
  · rcases List.mem_cons.1 hx with rfl | hx
    · exact ⟨B, F.wis.new hlt, Nat.le_trans F.nx.size hlt⟩
    · exact F'.lo x hx
  · rw [List.map_cons, List.nodup_cons]
    refine ⟨fun hm => ?_, F.nd⟩
    obtain ⟨y, hy, e⟩ := List.mem_map.1 hm
    have := (F.lo y hy).blk.lt
    simp only at e
    omega
theorem Fm.leftW (F : Fm X c M w M' w' A' ls kl ro) {c2 : Nat} {A2 : Aw} (h : Left X c2 M' w' A2 w'' M'') : Fm X c2 M w M'' w'' A2 ls kl ro := F.next (k2 := []) h.1 h.2 (fun k hk => by cases hk)
theorem row_cell {b i : Nat} {cs : Array Value} {t : TypeId} (hb : Blk w b cs t) (v : Value) {ds : Array Value} (e : cs.setIfInBounds i v = ds) : w.setCell ⟨b, i, none⟩ v = w.setRow b ds := by
  rw [← e]
  exact setCell_eq_setRow w b i cs t (0, 0) v hb
theorem row_cells {b : Nat} {t : TypeId} : ∀ (vs : List Value) (i : Nat) (cs : Array Value) (w : World), Blk w b cs t → ∀ {ds : Array Value}, (setL i vs cs) = ds → w.setCells b i vs = w.setRow b ds
  | [], i, cs, w, hb, ds, e => by
    subst e
    exact (setRow_id hb).symm
  | v :: r, i, cs, w, hb, ds, e => by
    rw [World.setCells, row_cells r (i + 1) (cs.setIfInBounds i v) _ (hb.set i v) e, row_cell hb v rfl, setRow_setRow]
end
theorem tcs_set4 (t : Th) (b : Bool) : (tcs t).setIfInBounds 4 (.bool b) = tcs { t with ext := b } := rfl
theorem dcs_set15 (d : Ds) (b : Bool) : (dcs d).setIfInBounds 15 (.bool b) = dcs { d with w := b } := rfl
theorem run_stVat {w : World} {b o : Nat} {cs : Array Value} {T : TypeId} (hb : Blk w b cs T) (v : Vl) (ho : o + 3 ≤ cs.size) {ds : Array Value} (e : setL o (vcs v).toList cs = ds) : (St 30 (.pointer (some ⟨b, o, none⟩)) (.agg (vcs v))).run Tryz.prog w = .ok () (w.setRow b ds) := by
  have h := run_stMid (w := w) (b := b) (o := o) (T := 30) (cs := vcs v) (there_blk hb (by show o + 3 ≤ _; omega)) sizeV (by simp [vcs, Value.oneCell'])
  rw [h, row_cells _ _ _ _ hb e]
theorem run_stTproto {w : World} {b : Nat} {t : Th} {T : TypeId} (hb : Blk w b (tcs t) T) (v : Vl) : (St 30 (.pointer (some ⟨b, 1, none⟩)) (.agg (vcs v))).run Tryz.prog w = .ok () (w.setRow b (tcs { t with proto := v })) := run_stVat hb v (by show 1 + 3 ≤ 24; omega) rfl
theorem run_stDval {w : World} {b : Nat} {d : Ds} {T : TypeId} (hb : Blk w b (dcs d) T) (v : Vl) : (St 30 (.pointer (some ⟨b, 6, none⟩)) (.agg (vcs v))).run Tryz.prog w = .ok () (w.setRow b (dcs { d with v := v })) := run_stVat hb v (by show 6 + 3 ≤ 18; omega) rfl
theorem run_stRval {w : World} {b : Nat} {r : Rr} {k : Value} {T : TypeId} (hb : Blk w b (rcs (r.mem k)) T) (v : Vl) : (St 30 (.pointer (some ⟨b, 1, none⟩)) (.agg (vcs v))).run Tryz.prog w = .ok () (w.setRow b (rcs (({ r with v := v } : Rr).mem k))) := run_stVat hb v (by show 1 + 3 ≤ 25; omega) rfl
theorem same_vcs (a b : Vl) (w : World) : Calls Tryz.prog 131 #[.agg (vcs a), .agg (vcs b)] w fun e w' => e = .returned (.bool (Des.eqV a b)) ∧ Below w.heap.size w w' := Des.same_any a b w
end Go.Proofs.YtphaefkaeinngaaGreatDoor.Mw

/-
  Step; the world's own cells.
-/
namespace Go.Proofs.YtphaefkaeinngaaGreatDoor.Mw
open Go Go.RowKit Go.Maps Go.Shelf Go.Proofs.YtphaefkaeinngaaGreatDoor.Keys Go.Proofs.YtphaefkaeinngaaGreatDoor.Hp Go.Proofs.YtphaefkaeinngaaGreatDoor.Mo
open Go.Proofs.YtphaefkaeinngaaGreatDoor.Des (Vl Ds zeroV zeroD dcs dcs_size dcs_one accF rigF appF eqV)
open Go.Proofs.YtphaefkaeinngaaGreatDoor.Arrs (En ecs)
set_option linter.unusedVariables false
set_option linter.unusedSimpArgs false
attribute [local go_sem ↓] ldR stR alR bxR bdR ldV stV alV bxV bdV ldA stA bxA bdA ldKy bxKy bdKy 
attribute [local irreducible] rcs dcs ecs vcs acs kcs xcs tcs
attribute [local go_sem] run_bx run_alR run_stRg run_bdA0 run_bdAk run_bdAkr run_bdAkvr run_bdAr run_bdAkd run_bdRz run_bdRd run_bdRk run_bdRf run_bdRo run_bdRs run_bdRt' run_bdKs 
section
variable {X : Cx} {c : Nat} {M M' M'' : Wm} {w w' w'' : World} {A A' A'' : Aw} {ls : List Lc} {kl : List (Value × List KV)} {ro : List Lc} {D : DoT}
theorem WIs.wset (h : WIs X c M w A) {X' : Cx} {c' : Nat} {A' : Aw} (hX : X.near X') (hA : A.near A') (f0 : 0 ≤ A'.fuel) (f1 : 8 * A'.fuel.toNat + c' ≤ 8 * A.fuel.toNat + c) (d0 : 0 ≤ A'.depth) (d1 : A'.depth ≤ A'.deep) (d2 : A'.deep ≤ 1000) (d3 : A'.depth = X'.dp) (d4 : A'.deep = X'.dl) :
    WIs X' c' M (w.setRow X.wb (wcs M.hb X.cl A'.fuel A'.deep A'.depth A'.deepest M.ls)) A' :=
  h.own hX hA (h.wblk.row _) (fun b hb => setRow_other w X.wb b _ hb) ⟨rfl, rfl, rfl, by rw [size_setRow]; exact Nat.le_refl _⟩ f0 f1 d0 d1 d2 d3 d4
theorem Nx.wset (M : Wm) (wb : Nat) (w : World) (cs : Array Value) : Nx (M.bl wb) w (M.bl wb) (w.setRow wb cs) :=
  ⟨⟨⟨rfl, rfl, rfl, by rw [size_setRow]; exact Nat.le_refl _⟩, fun b hb hn => setRow_other w wb b cs fun e => hn (e ▸ mem_wb M wb)⟩, fun b hb => .inl hb⟩
theorem wcs_fuel {hb : Nat} {cl ls : Value} {f dl d de v : Int} : (wcs hb cl f dl d de ls).setIfInBounds 2 (.int .i64 v) = wcs hb cl v dl d de ls := rfl
theorem wcs_depth {hb : Nat} {cl ls : Value} {f dl d de v : Int} : (wcs hb cl f dl d de ls).setIfInBounds 4 (.int .i64 v) = wcs hb cl f dl v de ls := rfl
theorem wcs_deepest {hb : Nat} {cl ls : Value} {f dl d de v : Int} : (wcs hb cl f dl d de ls).setIfInBounds 5 (.int .i64 v) = wcs hb cl f dl d v ls := rfl
theorem Cx.near_refl (X : Cx) : X.near X := ⟨rfl, rfl, rfl, rfl⟩
theorem WIs.w2 (h : WIs X c M w A) : w.cell? ⟨X.wb, 2, none⟩ = some (.int .i64 A.fuel) := h.wblk.cell 2
theorem WIs.w3 (h : WIs X c M w A) : w.cell? ⟨X.wb, 3, none⟩ = some (.int .i64 A.deep) := h.wblk.cell 3
theorem WIs.w4 (h : WIs X c M w A) : w.cell? ⟨X.wb, 4, none⟩ = some (.int .i64 A.depth) := h.wblk.cell 4
theorem WIs.w5 (h : WIs X c M w A) : w.cell? ⟨X.wb, 5, none⟩ = some (.int .i64 A.deepest) := h.wblk.cell 5
theorem WIs.w6 (h : WIs X c M w A) : w.cell? ⟨X.wb, 6, none⟩ = some M.ls := h.wblk.cell 6
theorem WIs.w1 (h : WIs X c M w A) : w.cell? ⟨X.wb, 1, none⟩ = some X.cl := h.wblk.cell 1
theorem step_no (h : WIs X c M w A) (hf : A.fuel = 0) : Calls Tryz.prog 35 #[ptr X.wb] w fun e w' => e = .returned (.agg (rcs ((flowR 2).mem nilS))) ∧ Below w.heap.size w w' := by
  obtain ⟨w1, hw1⟩ : ∃ w1, w.alloc (.cells (rcs zeroR) 57) = w1 := ⟨_, rfl⟩
  have b1 : Below w.heap.size w w1 := by rw [← hw1]; exact (Below.refl _ w).alloc (Nat.le_refl _) _
  have x1 : Blk w1 w.heap.size (rcs zeroR) 57 := by rw [← hw1]; exact Blk.new w _ _
  have h1 := h.call b1
  have c2 := h1.w2
  rw [hf] at c2
  have s1 := run_stRp x1 (r := (flowR 2).mem nilS) ⟨_, _, _, rfl⟩
  have X1 := Lib.hid (x1.row (rcs ((flowR 2).mem nilS)))
  have B1 := Lib.hid (below_rowW b1 (rcs ((flowR 2).mem nilS)) (Nat.le_refl _))
  clear h h1 x1 b1 hf
  go_enter Tryz.func35, Tryz.ntmps35
  go_wp2
  refine bodyPost_ret (res_R rfl _ _ w.heap.size _ rfl X1.out) rfl ?_
  exact ⟨rfl, B1.out⟩
theorem step_yes (h : WIs X c M w A) (hf : A.fuel ≠ 0) : Calls Tryz.prog 35 #[ptr X.wb] w fun e w' => e = .returned (.agg (rcs (zeroRr.mem nilS))) ∧ WIs X (c + 8) M w' { A with fuel := A.fuel - 1 } ∧ Nx (M.bl X.wb) w (M.bl X.wb) w' := by
  obtain ⟨w1, hw1⟩ : ∃ w1, w.alloc (.cells (rcs zeroR) 57) = w1 := ⟨_, rfl⟩
  have F0 : Fm X c M w M w1 A [⟨w.heap.size, rcs zeroR, 57⟩] [] [] := by rw [← hw1]; exact (Fm.start h).new _ _
  have h1 := F0.wis
  have c2 := h1.w2
  have f2 := h1.wblk.frozen 2
  have hfew := h.few
  have hfu := h.fuel
  have e2 : w1.setCell ⟨X.wb, 2, none⟩ (.int .i64 (A.fuel - 1)) = w1.setRow X.wb (wcs M.hb X.cl (A.fuel - 1) A.deep A.depth A.deepest M.ls) := row_cell h1.wblk _ wcs_fuel
  have h2 := h1.wset (c' := c + 8) (A' := { A with fuel := A.fuel - 1 }) (Cx.near_refl X) ⟨rfl, rfl, rfl, rfl⟩ (by show 0 ≤ A.fuel - 1; omega) (by show 8 * (A.fuel - 1).toNat + (c + 8) ≤ _; omega) h1.dep0 h1.dep1 h1.deep h1.dpe h1.dle
  have F2 : Fm X (c + 8) M w M (w1.setRow X.wb (wcs M.hb X.cl (A.fuel - 1) A.deep A.depth A.deepest M.ls)) { A with fuel := A.fuel - 1 } [⟨w.heap.size, rcs zeroR, 57⟩] [] [] := F0.next (k2 := []) h2 (Nx.wset M X.wb w1 _) (fun k hk => by cases hk)
  rw [← e2] at F2
  have s1 := run_stRp F2.l0.blk (r := zeroRr.mem nilS) ⟨_, _, _, rfl⟩
  have F3 := F2.put (l := []) (rcs (zeroRr.mem nilS)) (show 57 ≠ 32 by decide)
  have HF3 := Lib.hid F3
  have d0 : (A.fuel == 0) = false := by simp [hf]
  have hw64 : wrap64 (A.fuel - 1) = A.fuel - 1 := by unfold wrap64; omega
  clear h h1 h2 F0 F2 F3 hf hfew hfu e2
  go_enter Tryz.func35, Tryz.ntmps35
  go_wp2
  refine bodyPost_ret (res_R rfl _ _ w.heap.size _ rfl HF3.out.l0.blk) rfl ?_
  exact ⟨rfl, HF3.out.wis, HF3.out.nx⟩
end
end Go.Proofs.YtphaefkaeinngaaGreatDoor.Mw
