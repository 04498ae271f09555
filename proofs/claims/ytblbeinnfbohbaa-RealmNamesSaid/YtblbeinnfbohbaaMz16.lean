/-
  Texts of this seat in build order: ReBuild, MwObj0.
-/
import Derived.Test.YtblbeinnfbohbaaMz15
import Derived.Test.YtblbeinnfbohbaaMz11
import Derived.Stop.Asserts
/-
  Build.
-/
namespace Go.Proofs.Ytblbeinnfbohbaa.Re
open Go Go.RowKit Go.Maps Go.Shelf Go.Proofs.Ytblbeinnfbohbaa.Keys Go.Proofs.Ytblbeinnfbohbaa.Hp Go.Proofs.Ytblbeinnfbohbaa.Mo Go.Proofs.Ytblbeinnfbohbaa.Mw
open Go.Proofs.Ytblbeinnfbohbaa.Des (Vl Ds zeroV zeroD dcs dcs_size dcs_one accF rigF appF eqV)
open Go.Proofs.Ytblbeinnfbohbaa.Arrs (En ecs)
set_option linter.unusedVariables false
set_option linter.unusedSimpArgs false

theorem bdB (ps : Array (Nat × Value)) : Instr.build 60 ps = Bd 60 ps := (rfl)
theorem alB : Instr.alloc 60 true (.tuple #[]) = Al 60 := (rfl)
theorem stB (p v : Value) : Instr.storeAt 60 p v = Hp.St 60 p v := (rfl)
def zerB : Array Value := #[.pointer none, .pointer none, .map none, .bool false]
theorem run_alB (w : World) : (Al 60).run Try.prog w = .ok (ptr w.heap.size) (w.alloc (.cells zerB 60)) := run_al (z := .agg zerB) (n := 4) (by kernel_rfl) w
theorem run_bdB (w : World) (hb hs cb : Nat) : (Bd 60 #[(0, ptr hb), (1, ptr hs), (2, .map (some cb))]).run Try.prog w = .ok (.agg (bcs hb hs cb false)) w := run_build w _ _ _ (by kernel_rfl)
theorem run_stB (w : World) (g : Nat) (hg : g = w.heap.size) (hb hs cb : Nat) : (Hp.St 60 (.pointer (some ⟨g, 0, none⟩)) (.agg (bcs hb hs cb false))).run Try.prog (w.alloc (.cells zerB 60)) = .ok () (w.alloc (.cells (bcs hb hs cb false) 60)) := by
  subst hg
  rw [run_st_row (T := 60) (Blk.new w zerB 60) (cs := bcs hb hs cb false) (by kernel_rfl) rfl (by simp [bcs, Value.oneCell']), setRow_new]
section
variable {X : Cx} {hb hs bb cb c n : Nat} {F F' : Nat → Prop} {s s' : St} {w w' w'' : World} {ls : List Lc}
/-- A list of names laid. -/
theorem RM.names (h : RM X hb hs bb cb c n F w s ls w') (l : List ByteArray) (cs : Array Value) (hcs : cs = (l.map Value.string).toArray) : ∃ F', RF X hb hs bb cb c n F' s (w'.alloc (.cells cs 9)) ∧ NamesAt F' (w'.alloc (.cells cs 9)) (some ⟨w'.heap.size, 0, none⟩) l ∧ ∀ {c2 n2 : Nat} {s' : St} {w'' : World}, RP X hb hs bb cb c2 n2 F' (w'.alloc (.cells cs 9)) s' w'' → RM X hb hs bb cb c2 n2 F w s' ls w'' := by
  have h2 := h.call ((Below.refl _ w').alloc (Nat.le_refl _) (.cells cs 9))
  obtain ⟨F1, g1, g2, g3⟩ := h.ex
  refine ⟨F1, g1.call ((Below.refl _ w').alloc (Nat.le_refl _) _), ⟨w'.heap.size, 0, rfl, by simp, fun hF => by have := g1.lt hF; omega, fun j u hj => ?_⟩, fun {c2 n2 s' w''} k => ?_⟩
  · rw [Nat.zero_add, (Blk.new w' cs 9).cell, hcs]
    simpa using hj
  · obtain ⟨F2, k1, k2, -⟩ := k.ex
    have hb2 := (Below.refl _ w').alloc (Nat.le_refl _) (.cells cs 9)
    have k3 := Sc.Step.ahead hb2 k2
    refine ⟨⟨F2, k1, g2.trans k3, fun x hx => ?_⟩, h.nd⟩
    obtain ⟨q1, q2, q3, q4⟩ := g3 x hx
    refine ⟨(k3.stay x.b q1.lt q3).trans q1, q2, fun hF => ?_, q4⟩
    rcases k3.more x.b hF with hF | hF
    · exact q3 hF
    · have := q1.lt; omega
theorem heapOf_v {M : Wm} {A : Aw} (h : WIs X c M w A) : Calls Try.prog 14 #[ptr X.wb] w fun e w' => e = .returned (ptr M.hb) ∧ w' = w := by
  have c0 : w.cell? ⟨X.wb, 0, none⟩ = some (ptr M.hb) := h.wblk.cell 0
  clear h
  go_enter Try.func14, Try.ntmps14
  go_wp2
  go_ret
  exact ⟨rfl, rfl⟩
/-- The builder as Build begins. -/
theorem rf_start {M : Wm} {A : Aw} {Y : Nat → Prop} {S : List Sc.Sco} {w1 : World} (h : WIs X c M w A) (hp : Sc.PIs X.W0.heap.size Y w hs S) (hd : ∀ b, Y b → b ∉ M.bl X.wb) (hl : Sc.Lim n S) (hb1 : Below w.heap.size w w1) (hcb : w.heap.size ≤ cb) (hm : MapN w1 cb 26 cd) (cs : Array Value) (hcs : cs = bcs M.hb hs cb false) :
    RF X M.hb hs w1.heap.size cb c n (fun b => b ∈ M.bl X.wb ∨ Y b ∨ b = w1.heap.size) ⟨A, S, false⟩ (w1.alloc (.cells cs 60)) := by
  have hb2 := hb1.alloc hb1.size (.cells cs 60)
  have hs1 := hb1.size
  have hlt := hm.lt
  exact ⟨⟨M, Y, rfl, h.call hb2, hp.below hb2, hd, fun b => Iff.rfl, h.new hs1, fun hY => by have := (hp.low _ hY).2; omega⟩, by rw [hcs]; exact Blk.new _ _ _, hm.call ((Below.refl _ w1).alloc (Nat.le_refl _) _), fun hF => by
    rcases hF with hF | hF | hF
    · exact h.new hcb hF
    · have := (hp.low _ hF).2; omega
    · omega, Nat.le_trans h.bel.size hs1, hl⟩
/-- A list of thirteen names of the call's own. -/
theorem RM.own13 {X : Cx} {hb hs bb cb c n : Nat} {F : Nat → Prop} {s : St} {w w' q : World} {ls : List Lc} {v : Value} (h : RM X hb hs bb cb c n F w s ls w') (hb7 : Below w'.heap.size w' q) (ho : q.ownsRow w'.heap.size 9 1 v 13 (mths.map .string)) : ∃ F', RF X hb hs bb cb c n F' s q ∧ ∃ (_ : True), ∃ a cc, v = .slice a 13 cc ∧ NamesAt F' q a mths ∧ ∀ {c2 n2 : Nat} {s' : St} {w'' : World}, RP X hb hs bb cb c2 n2 F' q s' w'' → RM X hb hs bb cb c2 n2 F w s' ls w'' := by
  obtain ⟨F1, g1, g2, g3⟩ := h.ex
  rcases ho.2 with ⟨-, h0⟩ | ⟨g, cap, cur, e, hg, hbk, hle, hcap, hsz, htk⟩
  · cases h0
  · refine ⟨F1, g1.call hb7, trivial, some ⟨g, 0, none⟩, cap, e, ⟨g, 0, rfl, (Array.getElem?_eq_some_iff.1 hbk).1, fun hF => by have := g1.lt hF; omega, fun j u hj => ?_⟩, fun {c2 n2 s' w''} k => ?_⟩
    · have hlt := (List.getElem?_eq_some_iff.1 hj).1
      rw [ho.1] at hlt
      subst e
      rw [Nat.zero_add, ho.cellAt j hlt]
      exact hj
    · obtain ⟨F2, k1, k2, -⟩ := k.ex
      have k3 := Sc.Step.ahead hb7 k2
      refine ⟨⟨F2, k1, g2.trans k3, fun x hx => ?_⟩, h.nd⟩
      obtain ⟨q1, q2, q3, q4⟩ := g3 x hx
      refine ⟨(k3.stay x.b q1.lt q3).trans q1, q2, fun hF => ?_, q4⟩
      rcases k3.more x.b hF with hF | hF
      · exact q3 hF
      · have := q1.lt; omega
theorem gF {X : Cx} {c hs g : Nat} {M : Wm} {A : Aw} {w : World} {Y F : Nat → Prop} {S : List Sc.Sco} (e : (fun b => b ∈ M.bl X.wb ∨ Y b ∨ b = g) = F) (h : WIs X c M w A) (hp : Sc.PIs X.W0.heap.size Y w hs S) (hg : w.heap.size ≠ g) (hF : F w.heap.size) : False := by
  rw [← e] at hF
  rcases hF with hF | hF | hF
  · exact h.new (Nat.le_refl _) hF
  · have := (hp.low _ hF).2; omega
  · exact hg hF
theorem gG {X : Cx} {g : Nat} {M : Wm} {w : World} {Y F : Nat → Prop} (e : (fun b => b ∈ M.bl X.wb ∨ Y b ∨ b = g) = F) (hg : w.heap.size ≤ g) (b : Nat) (hF : F b) : (b ∈ M.bl X.wb ∨ Y b) ∨ w.heap.size ≤ b := by
  rw [← e] at hF
  rcases hF with hF | hF | hF
  · exact .inl (.inl hF)
  · exact .inl (.inr hF)
  · exact .inr (by omega)
/-- How Build ends. -/
def BuildP (X : Cx) (hb hs c n : Nat) (F0 : Nat → Prop) (w : World) (s' : St) (e : Ending) (w' : World) : Prop :=
  e = .returned (.agg (rcs ((if s'.full then flowR 3 else zeroRr).mem nilS))) ∧ (∃ bb cb F', RF X hb hs bb cb c n F' s' w') ∧ (∀ k, k < w.heap.size → ¬ F0 k → w'.heap[k]? = w.heap[k]?) ∧ Fr w w'
theorem build_end {w4 : World} {g : Nat} {F0 : Nat → Prop} (HG : RM X hb hs bb cb c n F w4 s [] w') (hB : Below w.heap.size w w4) (h0 : X.W0.heap.size ≤ w.heap.size) (hg1 : w.heap.size ≤ g) (hg2 : g < w4.heap.size) (hgF : ¬ F g) (hgc : g ≠ cb) (hF : ∀ b, F b → F0 b ∨ w.heap.size ≤ b) (cs : Array Value) :
    (∃ bb cb F', RF X hb hs bb cb c n F' s (w'.setRow g cs)) ∧ (∀ k, k < w.heap.size → ¬ F0 k → (w'.setRow g cs).heap[k]? = w.heap[k]?) ∧ Fr w (w'.setRow g cs) := by
  obtain ⟨F', r, st⟩ := HG.rf
  refine ⟨⟨bb, cb, F', r.row cs (fun h => ?_) hgc (by omega)⟩, fun k hk hn => ?_, ⟨st.fr.os.trans hB.os, st.fr.tape.trans hB.tape, st.fr.output.trans hB.output, by rw [size_setRow]; exact Nat.le_trans hB.size st.fr.size⟩⟩
  · rcases st.more g h with h | h
    · exact hgF h
    · omega
  · rw [setRow_other w' g k cs (by omega), st.stay k (Nat.lt_of_lt_of_le hk hB.size) (fun h => by
      rcases hF k h with h | h
      · exact hn h
      · omega), hB.block k hk]
theorem run_bdRf3 (w : World) : (Bd 37 #[(0, .int .i64 3)]).run Try.prog w = .ok (.agg (rcs ((flowR 3).mem nilS))) w := run_bdRf w 3
theorem run_bdRz0 (w : World) : (Bd 37 #[]).run Try.prog w = .ok (.agg (rcs (zeroRr.mem nilS))) w := run_bdRz w
theorem goodR (r : Rr) : (r.mem nilS).good := ⟨_, _, _, rfl⟩
end
attribute [local go_sem ↓] ldR stR alR bxR bdR ldV stV alV bxV bdV ldKy bxKy bdKy bdT alT stT bxT ldT bdD alD stD
attribute [local irreducible] rcs dcs ecs vcs acs kcs xcs tcs
attribute [local go_sem ↓] bxD
attribute [local go_sem] run_bx run_alV run_stVg run_alT run_bdTp run_bdTf run_bdDh run_bdO6 run_bdN1 run_alD run_stDg run_bdKs
attribute [local go_sem ↓] bdB alB stB
attribute [local irreducible] bcs zerB
attribute [local go_sem] run_alR run_alB run_bdB run_bdRf3 run_bdRz0
section
variable {X : Cx} {hs c n : Nat} {Y : Nat → Prop} {S : List Sc.Sco} {w w' w'' : World} {M : Wm} {A : Aw}
theorem fx (x : ByteArray) (h : x.size ≤ 1000) : Sc.Fine x ∧ Fine (x, 0) := ⟨by unfold Sc.Fine maxLen; omega, by show x.size ≤ _; omega, by show (-9223372036854775808 : Int) ≤ 0; decide, by show (0 : Int) ≤ 9223372036854775807; decide⟩
theorem sz_names : ∀ x ∈ [nCall, nBind, nProxy, nRevo, nCreate, nFreeze, nSeal, nFrozen, nSealed, nKeys, nSymbol, nIsArr, nPrint, nReflect, nObject, nArray], x.size ≤ 1000 := by decide
theorem sz_mths : ∀ x ∈ mths, Sc.Fine x ∧ Fine (x, 0) := by
  intro x hx
  obtain ⟨j, hj, rfl⟩ := List.mem_map.1 hx
  exact trap_fine j (List.mem_range.1 hj)
set_option maxRecDepth 100000 in
set_option maxHeartbeats 4000000 in
theorem build_v (h : WIs X (c + 55) M w A) (hp : Sc.PIs X.W0.heap.size Y w hs S) (hd : ∀ b, Y b → b ∉ M.bl X.wb) (hl : Sc.Lim n S) (hn : n ≤ 800) :
    Calls Try.prog 7 #[ptr X.wb, ptr hs] w (BuildP X M.hb hs c (n + 6) (fun b => b ∈ M.bl X.wb ∨ Y b) w (buildF ⟨A, S, false⟩)) := by
  obtain ⟨A1, E1⟩ : ∃ x, protoB ⟨A, S, false⟩ = x := ⟨_, rfl⟩
  obtain ⟨A2, E2⟩ : ∃ x, nmF (objV 1) [nCall, nBind] A1 = x := ⟨_, rfl⟩
  obtain ⟨R3, E3⟩ : ∃ x, glF nProxy A2 = x := ⟨_, rfl⟩
  obtain ⟨A4, E4⟩ : ∃ x, nmF R3.1 [nRevo] R3.2 = x := ⟨_, rfl⟩
  obtain ⟨R5, E5⟩ : ∃ x, glO nReflect A4 = x := ⟨_, rfl⟩
  obtain ⟨A6, E6⟩ : ∃ x, nmF R5.1 mths R5.2 = x := ⟨_, rfl⟩
  obtain ⟨R7, E7⟩ : ∃ x, glO nObject A6 = x := ⟨_, rfl⟩
  obtain ⟨A8, E8⟩ : ∃ x, nmF R7.1 [nCreate, nFreeze, nSeal, nFrozen, nSealed, nKeys] R7.2 = x := ⟨_, rfl⟩
  obtain ⟨R9, E9⟩ : ∃ x, glF nSymbol A8 = x := ⟨_, rfl⟩
  obtain ⟨R10, E10⟩ : ∃ x, glO nArray R9.2 = x := ⟨_, rfl⟩
  obtain ⟨A11, E11⟩ : ∃ x, nmF R10.1 [nIsArr] R10.2 = x := ⟨_, rfl⟩
  obtain ⟨R12, E12⟩ : ∃ x, glF nPrint A11 = x := ⟨_, rfl⟩
  have hB : buildF ⟨A, S, false⟩ = R12.2 := by
    unfold buildF st6 st5 st4 st3 st2 st1 gnO gnF
    rw [E1, E2, E3, E4, E5, E6, E7, E8, E9, E10, E11, E12]
  rw [hB]
  have H1 := Lib.hid E1
  have H2 := Lib.hid E2
  have H3 := Lib.hid E3
  have H4 := Lib.hid E4
  have H5 := Lib.hid E5
  have H6 := Lib.hid E6
  have H7 := Lib.hid E7
  have H8 := Lib.hid E8
  have H9 := Lib.hid E9
  have H10 := Lib.hid E10
  have H11 := Lib.hid E11
  have H12 := Lib.hid E12
  clear E1 E2 E3 E4 E5 E6 E7 E8 E9 E10 E11 E12 hB
  obtain ⟨w1, hw1⟩ : ∃ w1, w.alloc (.cells (rcs zeroR) 37) = w1 := ⟨_, rfl⟩
  have b1 : Below w.heap.size w w1 := by rw [← hw1]; exact (Below.refl _ w).alloc (Nat.le_refl _) _
  have x1 : Blk w1 w.heap.size (rcs zeroR) 37 := by rw [← hw1]; exact Blk.new _ _ _
  have z1 : w1.heap.size = w.heap.size + 1 := by rw [← hw1]; simp
  have hho := heapOf_v (h.call b1)
  have hco := codes_v w1
  have HH := Lib.hid h
  have HPP := Lib.hid hp
  have HD := Lib.hid hd
  have HL := Lib.hid hl
  have HN := Lib.hid hn
  have HB1 := Lib.hid b1
  have HX1 := Lib.hid x1
  have HZ1 := Lib.hid z1
  clear h hp hd hl hn b1 x1 z1
  go_enter Try.func7, Try.ntmps7
  go_wp2_with (first
    | (go_at_call 14; (with_reducible refine hho.mono ?_); rintro e w2 ⟨rfl, hw⟩; rw [hw]; clear hw hho)
    | (go_at_call 15; (with_reducible refine hco.mono ?_); go_loud (rintro e w3 ⟨rfl, hb3, hm3⟩; have HZ3 := Lib.hid hb3.size; have sB := run_stB w3 w3.heap.size rfl M.hb hs w1.heap.size; have hB3 := HB1.out.trans (hb3.mono HB1.out.size); have r0 := rf_start HH.out HPP.out HD.out HL.out hB3 (by have := HZ1.out; omega) hm3 (bcs M.hb hs w1.heap.size false) rfl; have HR0 := Lib.hid r0; have hpr := proto_v (c := c + 52) r0; rw [H1.out] at hpr; have HX4 := Lib.hid ((HX1.out.call hb3).old (.cells (bcs M.hb hs w1.heap.size false) 60)); have HB4 := Lib.hid (hB3.alloc hB3.size (.cells (bcs M.hb hs w1.heap.size false) 60)); clear hb3 hm3 hB3 hco r0); refine Hid.out ?_))
  refine Lib.hid ?_
  obtain ⟨w4, hw4⟩ : ∃ w4, w3.alloc (.cells (bcs M.hb hs w1.heap.size false) 60) = w4 := ⟨_, rfl⟩
  have z4 : w4.heap.size = w3.heap.size + 1 := by rw [← hw4]; simp
  rw [hw4] at hpr sB
  have h4r := HR0.out
  have h4x := HX4.out
  have h4b := HB4.out
  rw [hw4] at h4r h4x h4b
  have HR4 := Lib.hid h4r
  have HXX := Lib.hid h4x
  have HBB := Lib.hid h4b
  have HZ4 := Lib.hid z4
  clear HR0 HX4 HB4 h4r h4x h4b z4 hw4
  obtain ⟨F, hF⟩ : ∃ F : Nat → Prop, (fun b => b ∈ M.bl X.wb ∨ Y b ∨ b = w3.heap.size) = F := ⟨_, rfl⟩
  rw [hF] at hpr
  have hr4 := HR4.out
  rw [hF] at hr4
  have HFF := Lib.hid hF
  have HR5 := Lib.hid hr4
  clear HR4 hr4 hF
  go_wp2_with (first
    | (go_at_call 16; (with_reducible refine hpr.mono ?_); rintro e q1 ⟨rfl, hq⟩; have HG1 := Lib.hid hq; clear hq hpr)
    | (go_at_call 18; (with_reducible refine (obj_v _ _).mono ?_); rintro e q2 ⟨rfl, hb⟩; have g2 := HG1.out.call hb; obtain ⟨F2, r2, n2, p2⟩ := RM.names g2 [nCall, nBind] #[.string nCall, .string nBind] rfl; have hfs : Calls Try.prog 17 #[ptr w3.heap.size, .agg (vcs (objV 1)), .slice (some ⟨q2.heap.size, 0, none⟩) 2 2] (q2.alloc (.cells #[.string nCall, .string nBind] 9)) _ := funcs_v r2 (objV 1) _ 2 [nCall, nBind] n2 (fun x hx => fx x (sz_names x (by simp at hx; rcases hx with rfl | rfl <;> simp))) (by decide) (c + 48) rfl; rw [H2.out] at hfs; have HP := Lib.hid (fun (w'' : World) (k : RP X M.hb hs w3.heap.size w1.heap.size (c + 48) n F2 _ A2 w'') => p2 k); clear g2 r2 n2 p2 hb)
    | (go_at_call 17; (with_reducible refine hfs.mono ?_); rintro e q3 ⟨rfl, hq⟩; have g3 := HP.out q3 hq; obtain ⟨F3, r3, p3⟩ := g3.open; have hgf := globF_v (c := c + 47) r3 (by have := HN.out; omega) nProxy f_nProxy; rw [H3.out] at hgf; have HG3 := Lib.hid (fun (w'' : World) (k : RP X M.hb hs w3.heap.size w1.heap.size (c + 47) (n + 1) F3 _ R3.2 w'') => p3 k); clear g3 r3 p3 hq hfs HP; refine Hid.out ?_))
  refine Lib.hid ?_
  go_wp2_with (first
    | (go_at_call 19; (with_reducible refine hgf.mono ?_); rintro e q4 ⟨rfl, hq⟩; have g := HG3.out q4 hq; obtain ⟨F5, r5, n5, p5⟩ := RM.names g [nRevo] #[.string nRevo] rfl; have hfs : Calls Try.prog 17 #[ptr w3.heap.size, .agg (vcs R3.1), .slice (some ⟨q4.heap.size, 0, none⟩) 1 1] (q4.alloc (.cells #[.string nRevo] 9)) _ := funcs_v r5 R3.1 _ 1 [nRevo] n5 (fun x hx => fx x (sz_names x (by simp at hx; rcases hx with rfl <;> simp))) (by decide) (c + 45) rfl; rw [H4.out] at hfs; have HP := Lib.hid (fun (w'' : World) (k : RP X M.hb hs w3.heap.size w1.heap.size (c + 45) (n + 1) F5 _ A4 w'') => p5 k); clear g r5 n5 p5 hq hgf)
    | (go_at_call 17; (with_reducible refine hfs.mono ?_); rintro e q5 ⟨rfl, hq⟩; have g3 := HP.out q5 hq; obtain ⟨F3, r3, p3⟩ := g3.open; have hgf := globO_v (c := c + 44) r3 (by have := HN.out; omega) nReflect (fx _ (sz_names _ (by simp))).1; rw [H5.out] at hgf; have HG5 := Lib.hid (fun (w'' : World) (k : RP X M.hb hs w3.heap.size w1.heap.size (c + 44) (n + 2) F3 _ R5.2 w'') => p3 k); clear r3 p3; clear g3 hq hfs HP; refine Hid.out ?_))
  refine Lib.hid ?_
  go_wp2_with (first
    | (go_at_call 20; (with_reducible refine hgf.mono ?_); rintro e q6 ⟨rfl, hq⟩; have HGm := Lib.hid (HG5.out q6 hq); clear hq hgf)
    | (go_at_call 21; (with_reducible refine (methods_v _).mono ?_); rintro e q7 ⟨v7, rfl, hb7, ho7⟩; have g := HGm.out.call hb7; obtain ⟨F6, r6, -, a7, c7, e7, nm6, p6⟩ := RM.own13 HGm.out hb7 ho7; subst e7; have hfs : Calls Try.prog 17 #[ptr w3.heap.size, .agg (vcs R5.1), .slice a7 13 c7] q7 _ := funcs_v r6 R5.1 _ c7 mths nm6 sz_mths (by decide) (c + 18) rfl; rw [H6.out] at hfs; have HP := Lib.hid (fun (w'' : World) (k : RP X M.hb hs w3.heap.size w1.heap.size (c + 18) (n + 2) F6 _ A6 w'') => p6 k); clear g r6 nm6 p6 hb7 ho7)
    | (go_at_call 17; (with_reducible refine hfs.mono ?_); rintro e q8 ⟨rfl, hq⟩; have g3 := HP.out q8 hq; obtain ⟨F3, r3, p3⟩ := g3.open; have hgf := globO_v (c := c + 17) r3 (by have := HN.out; omega) nObject (fx _ (sz_names _ (by simp))).1; rw [H7.out] at hgf; have HG7 := Lib.hid (fun (w'' : World) (k : RP X M.hb hs w3.heap.size w1.heap.size (c + 17) (n + 3) F3 _ R7.2 w'') => p3 k); clear r3 p3; clear g3 hq hfs HP; refine Hid.out ?_))
  refine Lib.hid ?_
  go_wp2_with (first
    | (go_at_call 20; (with_reducible refine hgf.mono ?_); rintro e q9 ⟨rfl, hq⟩; have g := HG7.out q9 hq; obtain ⟨F5, r5, n5, p5⟩ := RM.names g [nCreate, nFreeze, nSeal, nFrozen, nSealed, nKeys] #[.string nCreate, .string nFreeze, .string nSeal, .string nFrozen, .string nSealed, .string nKeys] rfl; have hfs : Calls Try.prog 17 #[ptr w3.heap.size, .agg (vcs R7.1), .slice (some ⟨q9.heap.size, 0, none⟩) 6 6] (q9.alloc (.cells #[.string nCreate, .string nFreeze, .string nSeal, .string nFrozen, .string nSealed, .string nKeys] 9)) _ := funcs_v r5 R7.1 _ 6 [nCreate, nFreeze, nSeal, nFrozen, nSealed, nKeys] n5 (fun x hx => fx x (sz_names x (by simp at hx; rcases hx with rfl | rfl | rfl | rfl | rfl | rfl <;> simp))) (by decide) (c + 5) rfl; rw [H8.out] at hfs; have HP := Lib.hid (fun (w'' : World) (k : RP X M.hb hs w3.heap.size w1.heap.size (c + 5) (n + 3) F5 _ A8 w'') => p5 k); clear g r5 n5 p5 hq hgf)
    | (go_at_call 17; (with_reducible refine hfs.mono ?_); rintro e q10 ⟨rfl, hq⟩; have g3 := HP.out q10 hq; obtain ⟨F3, r3, p3⟩ := g3.open; have hgf := globF_v (c := c + 4) r3 (by have := HN.out; omega) nSymbol f_nSymbol; rw [H9.out] at hgf; have HG9 := Lib.hid (fun (w'' : World) (k : RP X M.hb hs w3.heap.size w1.heap.size (c + 4) (n + 4) F3 _ R9.2 w'') => p3 k); clear r3 p3; clear g3 hq hfs HP; refine Hid.out ?_))
  refine Lib.hid ?_
  go_wp2_with (go_at_call 19; (with_reducible refine hgf.mono ?_); rintro e q11 ⟨rfl, hq⟩; have g3 := HG9.out q11 hq; obtain ⟨F3, r3, p3⟩ := g3.open; have hgo := globO_v (c := c + 3) r3 (by have := HN.out; omega) nArray (fx _ (sz_names _ (by simp))).1; rw [H10.out] at hgo; have HG10 := Lib.hid (fun (w'' : World) (k : RP X M.hb hs w3.heap.size w1.heap.size (c + 3) (n + 5) F3 _ R10.2 w'') => p3 k); clear r3 p3; clear hgf; have hgf := hgo; clear hgo; clear g3 hq; refine Hid.out ?_)
  refine Lib.hid ?_
  go_wp2_with (first
    | (go_at_call 20; (with_reducible refine hgf.mono ?_); rintro e q12 ⟨rfl, hq⟩; have g := HG10.out q12 hq; obtain ⟨F5, r5, n5, p5⟩ := RM.names g [nIsArr] #[.string nIsArr] rfl; have hfs : Calls Try.prog 17 #[ptr w3.heap.size, .agg (vcs R10.1), .slice (some ⟨q12.heap.size, 0, none⟩) 1 1] (q12.alloc (.cells #[.string nIsArr] 9)) _ := funcs_v r5 R10.1 _ 1 [nIsArr] n5 (fun x hx => fx x (sz_names x (by simp at hx; rcases hx with rfl <;> simp))) (by decide) (c + 1) rfl; rw [H11.out] at hfs; have HP := Lib.hid (fun (w'' : World) (k : RP X M.hb hs w3.heap.size w1.heap.size (c + 1) (n + 5) F5 _ A11 w'') => p5 k); clear g r5 n5 p5 hq hgf)
    | (go_at_call 17; (with_reducible refine hfs.mono ?_); rintro e q13 ⟨rfl, hq⟩; have g3 := HP.out q13 hq; obtain ⟨F3, r3, p3⟩ := g3.open; have hgf := globF_v (c := c + 0) r3 (by have := HN.out; omega) nPrint f_nPrint; rw [H12.out] at hgf; have HG12 := Lib.hid (fun (w'' : World) (k : RP X M.hb hs w3.heap.size w1.heap.size (c + 0) (n + 6) F3 _ R12.2 w'') => p3 k); clear r3 p3; clear g3 hq hfs HP; refine Hid.out ?_))
  refine Lib.hid ?_
  cases hfull : R12.2.full with
  | true =>
    have HFU := Lib.hid hfull
    clear hfull
    go_wp2_with (go_at_call 19; (with_reducible refine hgf.mono ?_); rintro e q14 ⟨rfl, hq⟩; have g := HG12.out q14 hq; have C3 := (g.bblk.cell 3).trans (bcs_3 _ _ _ _); rw [HFU.out] at C3; have xq := g.blk HXX.out (fun h => gF HFF.out HH.out HPP.out (by have := HZ3.out; have := HZ1.out; omega) h); have sR := run_stRp xq (goodR (flowR 3)); have HGE := Lib.hid g; have HQ := Lib.hid xq; clear g hq hgf xq)
    have hend := build_end (F0 := fun b => b ∈ M.bl X.wb ∨ Y b) HGE.out HBB.out HH.out.bel.size (Nat.le_refl _) HXX.out.lt (fun h => gF HFF.out HH.out HPP.out (by have := HZ3.out; have := HZ1.out; omega) h) (by have := HZ1.out; omega) (fun b hb => gG HFF.out (by have := HZ3.out; have := HZ1.out; omega) b hb) (rcs ((flowR 3).mem nilS))
    refine bodyPost_ret (res_R rfl _ _ _ ((flowR 3).mem nilS) rfl (HQ.out.row _)) rfl ?_
    exact ⟨by rw [HFU.out]; rfl, hend⟩
  | false =>
    have HFU := Lib.hid hfull
    clear hfull
    go_wp2_with (go_at_call 19; (with_reducible refine hgf.mono ?_); rintro e q14 ⟨rfl, hq⟩; have g := HG12.out q14 hq; have C3 := (g.bblk.cell 3).trans (bcs_3 _ _ _ _); rw [HFU.out] at C3; have xq := g.blk HXX.out (fun h => gF HFF.out HH.out HPP.out (by have := HZ3.out; have := HZ1.out; omega) h); have sR := run_stRp xq (goodR zeroRr); have HGE := Lib.hid g; have HQ := Lib.hid xq; clear g hq hgf xq)
    have hend := build_end (F0 := fun b => b ∈ M.bl X.wb ∨ Y b) HGE.out HBB.out HH.out.bel.size (Nat.le_refl _) HXX.out.lt (fun h => gF HFF.out HH.out HPP.out (by have := HZ3.out; have := HZ1.out; omega) h) (by have := HZ1.out; omega) (fun b hb => gG HFF.out (by have := HZ3.out; have := HZ1.out; omega) b hb) (rcs (zeroRr.mem nilS))
    refine bodyPost_ret (res_R rfl _ _ _ (zeroRr.mem nilS) rfl (HQ.out.row _)) rfl ?_
    exact ⟨by rw [HFU.out]; rfl, hend⟩
end
end Go.Proofs.Ytblbeinnfbohbaa.Re

/-
  What an object is as a method sees it: plain facts.
-/
namespace Go.Proofs.Ytblbeinnfbohbaa.Mw
open Go Go.RowKit Go.Maps Go.Shelf Go.Proofs.Ytblbeinnfbohbaa.Keys Go.Proofs.Ytblbeinnfbohbaa.Hp Go.Proofs.Ytblbeinnfbohbaa.Mo
open Go.Proofs.Ytblbeinnfbohbaa.Des (Vl Ds zeroV zeroD dcs dcs_size dcs_one accF rigF appF eqV)
open Go.Proofs.Ytblbeinnfbohbaa.Arrs (En ecs)
set_option linter.unusedVariables false
set_option linter.unusedSimpArgs false
/-- The type of the pointer that an object is handed on as, by its kind; and of what it points to. -/
def ifT (k : Int) : TypeId := if k = 1 then 111 else if k = 2 then 114 else if k = 3 then 116 else if k = 4 then 118 else 120
def blT (k : Int) : TypeId := if k = 1 then 113 else if k = 2 then 115 else if k = 3 then 117 else if k = 4 then 119 else 110
theorem xcs_size (o : Int) (t : Th) : (xcs o t).size = 25 := rfl
theorem xcs_one {o : Int} {t : Th} (h1 : t.props = nilS) (h2 : t.args = nilS) : (xcs o t).all (·.oneCell') = true := by
  unfold xcs
  rw [h1, h2]
  simp [nilS, Value.oneCell']
theorem ld_ordinary (v : Value) : Instr.loadAt 110 v = Ld 110 v := (rfl)
theorem st_ordinary (p v : Value) : Instr.storeAt 110 p v = St 110 p v := (rfl)
theorem al_ordinary : Instr.alloc 110 true (.tuple #[]) = Al 110 := (rfl)
theorem bx_ordinary (v : Value) : Instr.box 110 v = Bx 110 v := (rfl)
theorem bd_ordinary (ps : Array (Nat × Value)) : Instr.build 110 ps = Bd 110 ps := (rfl)
theorem ld_array (v : Value) : Instr.loadAt 113 v = Ld 113 v := (rfl)
theorem st_array (p v : Value) : Instr.storeAt 113 p v = St 113 p v := (rfl)
theorem al_array : Instr.alloc 113 true (.tuple #[]) = Al 113 := (rfl)
theorem bx_array (v : Value) : Instr.box 113 v = Bx 113 v := (rfl)
theorem bd_array (ps : Array (Nat × Value)) : Instr.build 113 ps = Bd 113 ps := (rfl)
theorem ld_function (v : Value) : Instr.loadAt 115 v = Ld 115 v := (rfl)
theorem st_function (p v : Value) : Instr.storeAt 115 p v = St 115 p v := (rfl)
theorem al_function : Instr.alloc 115 true (.tuple #[]) = Al 115 := (rfl)
theorem bx_function (v : Value) : Instr.box 115 v = Bx 115 v := (rfl)
theorem bd_function (ps : Array (Nat × Value)) : Instr.build 115 ps = Bd 115 ps := (rfl)
theorem ld_bound (v : Value) : Instr.loadAt 117 v = Ld 117 v := (rfl)
theorem st_bound (p v : Value) : Instr.storeAt 117 p v = St 117 p v := (rfl)
theorem al_bound : Instr.alloc 117 true (.tuple #[]) = Al 117 := (rfl)
theorem bx_bound (v : Value) : Instr.box 117 v = Bx 117 v := (rfl)
theorem bd_bound (ps : Array (Nat × Value)) : Instr.build 117 ps = Bd 117 ps := (rfl)
theorem ld_proxy (v : Value) : Instr.loadAt 119 v = Ld 119 v := (rfl)
theorem st_proxy (p v : Value) : Instr.storeAt 119 p v = St 119 p v := (rfl)
theorem al_proxy : Instr.alloc 119 true (.tuple #[]) = Al 119 := (rfl)
theorem bx_proxy (v : Value) : Instr.box 119 v = Bx 119 v := (rfl)
theorem bd_proxy (ps : Array (Nat × Value)) : Instr.build 119 ps = Bd 119 ps := (rfl)
theorem info_x : (Try.prog.info? 110).map (fun i => (i.zero, i.size)) = some (some (.agg (xcs 0 zeroT)), 25) := by kernel_rfl
theorem size_x : (Try.prog.info? 110).map (·.size) = some 25 := by kernel_rfl
theorem run_alX (w : World) : (Al 110).run Try.prog w = .ok (ptr w.heap.size) (w.alloc (.cells (xcs 0 zeroT) 110)) := run_al info_x w
theorem run_ldX {w : World} {b : Nat} {o : Int} {t : Th} {T : TypeId} (h : Blk w b (xcs o t) T) : (Ld 110 (.pointer (some ⟨b, 0, none⟩))).run Try.prog w = .ok (.agg (xcs o t)) w := by
  have := run_loadAt_mid (P := Try.prog) w b 0 110 (xcs o t).toList _ (h.range (r := []) (by simp)) Try.underlying110 rfl size_x
  simpa [Ld] using this
theorem run_stX (w : World) (o : Int) (t : Th) (h1 : t.props = nilS) (h2 : t.args = nilS) : (St 110 (.pointer (some ⟨w.heap.size, 0, none⟩)) (.agg (xcs o t))).run Try.prog (w.alloc (.cells (xcs 0 zeroT) 110)) = .ok () (w.alloc (.cells (xcs o t) 110)) := by
  have hb := Blk.new w (xcs 0 zeroT) 110
  have h := run_st_row hb (T := 110) (cs := xcs o t) (by rw [xcs_size]; exact size_x) (by rw [xcs_size, xcs_size]) (xcs_one h1 h2)
  rw [h, setRow_new]
theorem run_bdX (w : World) (o : Int) (t : Th) (h1 : t.props = nilS) (h2 : t.args = nilS) : (Bd 110 #[(0, .int .i64 o), (1, .agg (tcs t))]).run Try.prog w = .ok (.agg (xcs o t)) w := by
  cases t
  simp only at h1 h2
  subst h1 h2
  exact run_build w _ _ _ (by kernel_rfl)
theorem run_bd_array (w : World) (o : Int) (t : Th) (h1 : t.props = nilS) (h2 : t.args = nilS) : (Bd 113 #[(0, .agg (xcs o t))]).run Try.prog w = .ok (.agg (xcs o t)) w := by
  cases t
  simp only at h1 h2
  subst h1 h2
  exact run_build w _ _ _ (by kernel_rfl)
theorem run_bd_function (w : World) (o : Int) (t : Th) (h1 : t.props = nilS) (h2 : t.args = nilS) : (Bd 115 #[(0, .agg (xcs o t))]).run Try.prog w = .ok (.agg (xcs o t)) w := by
  cases t
  simp only at h1 h2
  subst h1 h2
  exact run_build w _ _ _ (by kernel_rfl)
theorem run_bd_bound (w : World) (o : Int) (t : Th) (h1 : t.props = nilS) (h2 : t.args = nilS) : (Bd 117 #[(0, .agg (xcs o t))]).run Try.prog w = .ok (.agg (xcs o t)) w := by
  cases t
  simp only at h1 h2
  subst h1 h2
  exact run_build w _ _ _ (by kernel_rfl)
theorem run_bd_proxy (w : World) (o : Int) (t : Th) (h1 : t.props = nilS) (h2 : t.args = nilS) : (Bd 119 #[(0, .agg (xcs o t))]).run Try.prog w = .ok (.agg (xcs o t)) w := by
  cases t
  simp only at h1 h2
  subst h1 h2
  exact run_build w _ _ _ (by kernel_rfl)
theorem me_ordinary_self (d b : Nat) (w : World) : (method (d + 1) 120 (ptr b) "understudy/mop.self").run Try.prog w = .ok (70, ptr b) w := by kernel_rfl
theorem me_ordinary_calls (d b : Nat) (w : World) : (method (d + 1) 120 (ptr b) "understudy/mop.calls").run Try.prog w = .ok (68, ptr b) w := by kernel_rfl
theorem me_ordinary_makes (d b : Nat) (w : World) : (method (d + 1) 120 (ptr b) "understudy/mop.makes").run Try.prog w = .ok (69, ptr b) w := by kernel_rfl
theorem me_array_self (d b : Nat) (w : World) : (method (d + 1) 111 (ptr b) "understudy/mop.self").run Try.prog w = .ok (70, ptr b) w := by kernel_rfl
theorem me_array_calls (d b : Nat) (w : World) : (method (d + 1) 111 (ptr b) "understudy/mop.calls").run Try.prog w = .ok (68, ptr b) w := by kernel_rfl
theorem me_array_makes (d b : Nat) (w : World) : (method (d + 1) 111 (ptr b) "understudy/mop.makes").run Try.prog w = .ok (69, ptr b) w := by kernel_rfl
theorem me_function_self (d b : Nat) (w : World) : (method (d + 1) 114 (ptr b) "understudy/mop.self").run Try.prog w = .ok (70, ptr b) w := by kernel_rfl
theorem me_function_calls (d b : Nat) (w : World) : (method (d + 1) 114 (ptr b) "understudy/mop.calls").run Try.prog w = .ok (71, ptr b) w := by kernel_rfl
theorem me_function_makes (d b : Nat) (w : World) : (method (d + 1) 114 (ptr b) "understudy/mop.makes").run Try.prog w = .ok (72, ptr b) w := by kernel_rfl
theorem me_bound_self (d b : Nat) (w : World) : (method (d + 1) 116 (ptr b) "understudy/mop.self").run Try.prog w = .ok (70, ptr b) w := by kernel_rfl
theorem me_bound_calls (d b : Nat) (w : World) : (method (d + 1) 116 (ptr b) "understudy/mop.calls").run Try.prog w = .ok (73, ptr b) w := by kernel_rfl
theorem me_bound_makes (d b : Nat) (w : World) : (method (d + 1) 116 (ptr b) "understudy/mop.makes").run Try.prog w = .ok (74, ptr b) w := by kernel_rfl
theorem me_proxy_self (d b : Nat) (w : World) : (method (d + 1) 118 (ptr b) "understudy/mop.self").run Try.prog w = .ok (70, ptr b) w := by kernel_rfl
theorem me_proxy_calls (d b : Nat) (w : World) : (method (d + 1) 118 (ptr b) "understudy/mop.calls").run Try.prog w = .ok (75, ptr b) w := by kernel_rfl
theorem me_proxy_makes (d b : Nat) (w : World) : (method (d + 1) 118 (ptr b) "understudy/mop.makes").run Try.prog w = .ok (76, ptr b) w := by kernel_rfl
theorem below_two {w w2 : World} (hb : Below w.heap.size w w2) (a b : Obj) : Below w.heap.size w ((w2.alloc a).alloc b) := (hb.alloc hb.size a).alloc (by have := hb.size; simp; omega) b
theorem below_three {w w2 : World} (hb : Below w.heap.size w w2) (a b c : Obj) : Below w.heap.size w (((w2.alloc a).alloc b).alloc c) := (below_two hb a b).alloc (by have := hb.size; simp; omega) c
section
variable {w : World} {b : Nat} {o : Int} {t : Th} {T : TypeId}
theorem x_calls (h : Blk w b (xcs o t) T) : w.cell? ⟨b, 22, none⟩ = some (.bool t.calls) := h.cell 22
theorem x_makes (h : Blk w b (xcs o t) T) : w.cell? ⟨b, 23, none⟩ = some (.bool t.makes) := h.cell 23
theorem x_code (h : Blk w b (xcs o t) T) : w.cell? ⟨b, 7, none⟩ = some (.int .i64 t.code) := h.cell 7
theorem x_kind (h : Blk w b (xcs o t) T) : w.cell? ⟨b, 1, none⟩ = some (.int .i64 t.kind) := h.cell 1
end
theorem t_kind {w : World} {b : Nat} {t : Th} {T : TypeId} (h : Blk w b (tcs t) T) : w.cell? ⟨b, 0, none⟩ = some (.int .i64 t.kind) := h.cell 0
theorem obj_facts (o : Int) (th : Th) (h1 : th.props = nilS) (h2 : th.args = nilS) (w2 : World) :
    (St 85 (.pointer (some ⟨w2.heap.size, 0, none⟩)) (.agg (tcs th))).run Try.prog (w2.alloc (.cells (tcs zeroT) 85)) = .ok () (w2.alloc (.cells (tcs th) 85)) ∧
    (Ld 85 (.pointer (some ⟨w2.heap.size, 0, none⟩))).run Try.prog (w2.alloc (.cells (tcs th) 85)) = .ok (.agg (tcs th)) (w2.alloc (.cells (tcs th) 85)) ∧
    (St 110 (.pointer (some ⟨w2.heap.size + 1, 0, none⟩)) (.agg (xcs o th))).run Try.prog ((w2.alloc (.cells (tcs th) 85)).alloc (.cells (xcs 0 zeroT) 110)) = .ok () ((w2.alloc (.cells (tcs th) 85)).alloc (.cells (xcs o th) 110)) ∧
    ((w2.alloc (.cells (tcs th) 85)).alloc (.cells (xcs o th) 110)).cell? ⟨w2.heap.size, 0, none⟩ = some (.int .i64 th.kind) ∧
    (Ld 110 (.pointer (some ⟨w2.heap.size + 1, 0, none⟩))).run Try.prog ((w2.alloc (.cells (tcs th) 85)).alloc (.cells (xcs o th) 110)) = .ok (.agg (xcs o th)) ((w2.alloc (.cells (tcs th) 85)).alloc (.cells (xcs o th) 110)) := by
  have e : (w2.alloc (.cells (tcs th) 85)).heap.size = w2.heap.size + 1 := by simp
  have B3 := Blk.new w2 (tcs th) 85
  have B4 := Blk.new (w2.alloc (.cells (tcs th) 85)) (xcs o th) 110
  have sx := run_stX (w2.alloc (.cells (tcs th) 85)) o th h1 h2
  rw [e] at B4 sx
  exact ⟨run_stT w2 th zeroT ⟨⟨_, _, _, h1⟩, ⟨_, _, _, h2⟩⟩, run_ldT B3, sx, t_kind (B3.old _), run_ldX B4⟩
section
variable {X : Cx} {c : Nat} {M : Wm} {w : World} {A : Aw} {x : Ob}
theorem stW (h : WIs X c M w A) : Calls Try.prog 40 #[ptr X.wb] w fun e w' => e = .returned (ptr M.hb) ∧ w' = w := store_world X.wb M.hb X.cl A.fuel A.deep A.depth A.deepest M.ls w h.wblk
end
section
variable {X : Cx} {c : Nat} {M : Wm} {w : World} {A : Aw} {x : Ob}
theorem WIs.fit (h : WIs X c M w A) {o : Int} (hx : at? A o = some x) : x.th.props = nilS ∧ x.th.args = nilS ∧ (x.es.map ekey).Nodup ∧ (∀ e ∈ x.es, Fine (ekey e)) ∧ x.es.length + 8 * A.fuel.toNat + c ≤ 900000 ∧ x.vs.length ≤ 100000 ∧ (X.px = false → x.th.kind ≠ 4) := by
  obtain ⟨i, q, g, cc, rfl, hi, hq, hr, hos, hc, hlt⟩ := h.obj hx
  have hnum := h.num q (List.mem_of_getElem? hq)
  have hlen := hr.len
  refine ⟨hr.nop, hr.noa, ?_, hr.fine, by omega, hr.vlen, fun hp => h.nopx hp x (List.mem_of_getElem? hi)⟩
  have hn := hr.once.once
  rw [← hr.es, List.map_map]
  exact hn
end
end Go.Proofs.Ytblbeinnfbohbaa.Mw
