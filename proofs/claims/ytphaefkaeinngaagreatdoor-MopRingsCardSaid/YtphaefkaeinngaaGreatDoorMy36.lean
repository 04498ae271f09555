/-
  Texts of this seat in build order: MwDoC, MwInd, MwNew, MwLeft, MwLogB, MwDeepM, MwAlvM, MwAlive, MwRight, MwRightB, MwPlain, MwRingM.
-/
import Derived.Test.YtphaefkaeinngaaGreatDoorMy35
import Derived.Test.YtphaefkaeinngaaGreatDoorMy19
import Derived.Test.YtphaefkaeinngaaGreatDoorMy18
import Derived.Test.YtphaefkaeinngaaGreatDoorMy10
import Derived.Test.YtphaefkaeinngaaGreatDoorMy06
import Derived.Test.YtphaefkaeinngaaGreatDoorMy20
import Derived.Test.YtphaefkaeinngaaGreatDoorMy16
import Derived.Deep.LoopGhost
/-
  Do: whatever is asked.
-/
namespace Go.Proofs.YtphaefkaeinngaaGreatDoor.Mw
open Go Go.RowKit Go.Maps Go.Shelf Go.Proofs.YtphaefkaeinngaaGreatDoor.Keys Go.Proofs.YtphaefkaeinngaaGreatDoor.Hp Go.Proofs.YtphaefkaeinngaaGreatDoor.Mo
open Go.Proofs.YtphaefkaeinngaaGreatDoor.Des (Vl Ds zeroV zeroD dcs dcs_size dcs_one accF rigF appF eqV)
open Go.Proofs.YtphaefkaeinngaaGreatDoor.Arrs (En ecs)
set_option linter.unusedVariables false
set_option linter.unusedSimpArgs false
attribute [local go_sem ↓] ldR stR alR bxR bdR ldV stV alV bxV bdV ldA stA bxA bdA ldKy bxKy bdKy 
attribute [local irreducible] rcs dcs ecs vcs acs kcs xcs tcs
attribute [local go_sem] run_bx run_alR run_stRg run_bdA0 run_bdAk run_bdAkr run_bdAkvr run_bdAr run_bdAkd run_bdRz run_bdRd run_bdRk run_bdRf run_bdRo run_bdRs run_bdRt' run_bdKs 
section
variable {X : Cx} {c : Nat} {M M' M'' : Wm} {w w' w'' : World} {A A' A'' : Aw} {ls : List Lc} {kl : List (Value × List KV)} {ro : List Lc} {D : DoT}
theorem do_any {Xf : DoT} {C : HandT} (HP : X.dp < X.dl → PerfIs (X.at_ (X.dp + 1)) (perfF Xf C D)) : DoIs X (bodyF Xf C D) := fun c M w A m o a al h hk hl hlen => by
  unfold bodyF
  cases hx : at? A o with
  | none => exact do_none h m o a al hk hl hlen hx
  | some x =>
    simp only
    cases hm : isMethF m
    · simp only [Bool.not_false, if_true]
      exact do_what h m o a al hk hl hlen hx hm
    · simp only [Bool.not_true, Bool.false_eq_true, if_false]
      by_cases hf : A.fuel = 0
      · rw [if_pos hf]
        exact do_fuel h m o a al hk hl hlen hx hm hf
      · rw [if_neg hf]
        by_cases hd : A.depth ≥ A.deep
        · rw [if_pos hd]
          exact do_deep h m o a al hk hl hlen hx hm hf hd
        · rw [if_neg hd]
          have h1 := h.dpe
          have h2 := h.dle
          obtain ⟨R, hR⟩ : ∃ R, perfF Xf C D m o x.th a { A with fuel := A.fuel - 1, depth := A.depth + 1, deepest := max A.deepest (A.depth + 1) } = R := ⟨_, rfl⟩
          obtain ⟨B1, B2⟩ := R
          rw [hR]
          exact do_ok (HP (by omega)) h m o a al hk hl hlen hx hm hf hd B1 B2 hR
end
end Go.Proofs.YtphaefkaeinngaaGreatDoor.Mw

/-
  Do as the world's methods say, whatever its depth.
-/
namespace Go.Proofs.YtphaefkaeinngaaGreatDoor.Mw
open Go Go.RowKit Go.Maps Go.Shelf Go.Proofs.YtphaefkaeinngaaGreatDoor.Keys Go.Proofs.YtphaefkaeinngaaGreatDoor.Hp Go.Proofs.YtphaefkaeinngaaGreatDoor.Mo
set_option linter.unusedVariables false
set_option linter.unusedSimpArgs false
theorem doIs_doF {X : Cx} {Xf : DoT → DoT} {C : DoT → HandT} (hdl : X.dl ≤ 1000) (hC : ∀ (d : Int) (D : DoT), DoIs (X.at_ d) D → HandIs (X.at_ d) (C D)) (hX : ∀ (d : Int) (D : DoT), DoIs (X.at_ d) D → DelIs (X.at_ d) (Xf D)) :
    ∀ (k : Nat) (d : Int), 0 ≤ d → d + k = X.dl → DoIs (X.at_ d) (doF Xf C k) := by
  intro k
  induction k with
  | zero =>
    intro d h0 hd
    show DoIs (X.at_ d) (bodyF _ _ _)
    refine do_any (X := X.at_ d) (fun h => ?_)
    have h' : d < X.dl := h
    omega
  | succ n ih =>
    intro d h0 hd
    have hD := ih (d + 1) (by omega) (by omega)
    show DoIs (X.at_ d) (bodyF _ _ _)
    refine do_any (X := X.at_ d) (fun h => ?_)
    exact perf_any (X := X.at_ (d + 1)) (hC (d + 1) _ hD) hD (hX (d + 1) _ hD) (by show 1000000 + 100000 * (d + 1).toNat ≤ 1000000000; omega)
theorem doIs_plain {X : Cx} (hdl : X.dl ≤ 1000) (hcl : X.cl = .nilIface) (hpx : X.px = false) (Xf : DoT → DoT) {k : Nat} (h0 : 0 ≤ X.dp) (hd : X.dp + k = X.dl) : DoIs X (doF Xf (fun _ => none) k) :=
  doIs_doF (X := X) hdl (fun d D _ => hand_nil hcl) (fun d D _ h => by rw [show (X.at_ d).px = X.px from rfl, hpx] at h; cases h) k X.dp h0 hd
end Go.Proofs.YtphaefkaeinngaaGreatDoor.Mw

/-
  New: a world as the laws begin with.
-/
namespace Go.Proofs.YtphaefkaeinngaaGreatDoor.Mw
open Go Go.RowKit Go.Maps Go.Shelf Go.Proofs.YtphaefkaeinngaaGreatDoor.Keys Go.Proofs.YtphaefkaeinngaaGreatDoor.Hp Go.Proofs.YtphaefkaeinngaaGreatDoor.Mo
open Go.Proofs.YtphaefkaeinngaaGreatDoor.Des (Vl Ds zeroV zeroD dcs dcs_size dcs_one)
open Go.Proofs.YtphaefkaeinngaaGreatDoor.Arrs (En ecs ecs_0 ecs_1 ecs_10 ecs_size ecs_list ecs_one ecs_one')
set_option linter.unusedVariables false
set_option linter.unusedSimpArgs false
def newA (F R D : Int) : Aw := ⟨[], R, 0, max F 0, min (max D 0) 1000, 0, 0, []⟩
theorem new_any (W0 : World) (hLw : Nums.Lw W0) (F R D : Int) (c : Nat) (hc : 8 * (max F 0).toNat + c ≤ 900000) (px : Bool) {w : World} (hb0 : Below W0.heap.size W0 w) :
    Calls Tryz.prog 11 #[.agg #[.int .i64 F, .int .i64 R, .int .i64 D]] w fun e w' => ∃ wb M, e = .returned (ptr wb) ∧ WIs ⟨W0, wb, .nilIface, px, 0, min (max D 0) 1000⟩ c M w' (newA F R D) ∧ w.heap.size ≤ wb ∧ (∀ b ∈ M.bl wb, w.heap.size ≤ b) ∧ Below w.heap.size w w' := by
  refine (newW_any F R D w).mono ?_
  rintro e w' ⟨wb, hb, rfl, hw, hh, h1, h2, hB⟩
  have hbl : ∀ b ∈ (Wm.bl ⟨hb, nilS, nilS, [], [], []⟩ wb), w.heap.size ≤ b := by
    intro b hm
    simp [Wm.bl, obl, nilS, Value.ownBlock] at hm
    rcases hm with rfl | rfl
    · exact h1
    · exact h2
  have hsz : W0.heap.size ≤ w.heap.size := hb0.size
  refine ⟨wb, ⟨hb, nilS, nilS, [], [], []⟩, rfl, ?_, h1, hbl, hB⟩
  have hrow : ∀ (e : TypeId), w'.ownsRow 0 e 1 nilS 0 [] := fun e => ⟨rfl, .inl ⟨rfl, rfl⟩⟩
  exact {
    wblk := hw
    hblk := hh
    orow := hrow _
    lrow := hrow _
    objs := ⟨rfl, fun i a b h => by simp at h⟩
    log := ⟨rfl, fun i a b h => by simp at h⟩
    rlt := fun b h => by cases h
    apart := fun i j p q _ h => by simp at h
    low := fun b h => Nat.le_trans hsz (hbl b h)
    bel := hb0.trans (hB.mono hsz)
    lw := hLw
    fuel := by show 0 ≤ max F 0; omega
    few := by show 0 + 8 * (max F 0).toNat + c ≤ 900000; omega
    num := fun q h => by cases h
    logn := by show 0 + 8 * (max F 0).toNat + c ≤ 900000; omega
    dep0 := by show (0 : Int) ≤ 0; omega
    dep1 := by show (0 : Int) ≤ min (max D 0) 1000; omega
    deep := by show min (max D 0) 1000 ≤ 1000; omega
    dpe := rfl
    dle := rfl
    nopx := fun _ x h => by cases h }
end Go.Proofs.YtphaefkaeinngaaGreatDoor.Mw

/-
  Left: what is left of the fuel, and how deep it went.
-/
namespace Go.Proofs.YtphaefkaeinngaaGreatDoor.Mw
open Go Go.RowKit Go.Maps Go.Shelf Go.Proofs.YtphaefkaeinngaaGreatDoor.Keys Go.Proofs.YtphaefkaeinngaaGreatDoor.Hp Go.Proofs.YtphaefkaeinngaaGreatDoor.Mo
open Go.Proofs.YtphaefkaeinngaaGreatDoor.Des (Vl Ds zeroV zeroD dcs dcs_size dcs_one)
open Go.Proofs.YtphaefkaeinngaaGreatDoor.Arrs (En ecs ecs_0 ecs_1 ecs_10 ecs_size ecs_list ecs_one ecs_one')
set_option linter.unusedVariables false
set_option linter.unusedSimpArgs false
end Go.Proofs.YtphaefkaeinngaaGreatDoor.Mw

/-
  Log: as many as were noted (weakly: what they hold is not said).
-/
namespace Go.Proofs.YtphaefkaeinngaaGreatDoor.Mw
open Go Go.RowKit Go.Maps Go.Shelf Go.Proofs.YtphaefkaeinngaaGreatDoor.Keys Go.Proofs.YtphaefkaeinngaaGreatDoor.Hp Go.Proofs.YtphaefkaeinngaaGreatDoor.Mo
open Go.Proofs.YtphaefkaeinngaaGreatDoor.Des (Vl Ds zeroV zeroD dcs dcs_size dcs_one)
open Go.Proofs.YtphaefkaeinngaaGreatDoor.Arrs (En ecs ecs_0 ecs_1 ecs_10 ecs_size ecs_list ecs_one ecs_one')
set_option linter.unusedVariables false
set_option linter.unusedSimpArgs false
theorem vsOut_in {R : List Nat} {w : World} {s : Value} {vs : List Vl} (h : VsIn R w s vs) : VsOut [] w s vs := by
  obtain ⟨a, c, e, h⟩ := h
  refine ⟨a, c, e, h.imp id ?_⟩
  rintro ⟨b, off, cur, h1, h2, h3, h4⟩
  exact ⟨b, off, h1, h3.lt, by simp, h4⟩
theorem ksOut_in {R : List Nat} {w : World} {s : Value} {ks : List KV} (h : KsIn R w s ks) (hl : ks.length ≤ 10000000) : KsOut [] w s ks := by
  obtain ⟨a, c, e, h⟩ := h
  refine ⟨a, c, e, hl, h.imp id ?_⟩
  rintro ⟨b, off, cur, h1, h2, h3, h4⟩
  exact ⟨b, off, cur, h1, h3, by simp, h4⟩
theorem there_call {w w' : World} {b n : Nat} (h : w.there b 0 n) (hlt : b < w.heap.size) (hb : Below w.heap.size w w') : w'.there b 0 n := fun j hj => by
  have e : w'.heap[b]? = w.heap[b]? := hb.block b hlt
  rw [World.cell?_of_block (a := ⟨b, 0 + j, none⟩) e, World.frozen?_of_block (a := ⟨b, 0 + j, none⟩) e]
  exact h j hj
theorem there_own {w : World} {base g n sz cap : Nat} {e : TypeId} {xs : List Value} (h : w.ownsRow base e sz (.slice (some ⟨g, 0, none⟩) n cap) n xs) : w.there g 0 (n * sz) ∧ g < w.heap.size := by
  rcases h.2 with ⟨h', _⟩ | ⟨g', cap', cur, h', _, hg, hle, hcm, hsz, htake⟩
  · simp at h'
  · simp only [Value.slice.injEq, Option.some.injEq, Addr.mk.injEq, and_true, true_and] at h'
    obtain ⟨rfl, rfl⟩ := h'
    have hb : Blk w g cur e := hg
    have hle2 : n * sz ≤ cap * sz := Nat.mul_le_mul_right _ hle
    refine ⟨fun j hj => ⟨?_, hb.frozen _⟩, hb.lt⟩
    have hj2 : j < cur.size := by omega
    rw [Nat.zero_add, hb.cell j, Array.getElem?_eq_getElem hj2]
    rfl
theorem there_sub {w : World} {b n o k : Nat} (h : w.there b 0 n) (hk : o + k ≤ n) : w.there b o k := fun j hj => by
  have := h (o + j) (by omega)
  rwa [Nat.zero_add] at this
theorem below_cells {B b : Nat} {w0 w : World} (h : Below B w0 w) (hb : B ≤ b) (o : Nat) (vs : List Value) : Below B w0 (w.setCells b o vs) := by
  obtain ⟨h1, h2⟩ := setCells_fr b vs o w
  exact h.trans ⟨h1.os, h1.tape, h1.output, h1.size, fun k hk => setCells_block b vs o w k (by omega)⟩
theorem infoS3 : (Tryz.prog.info? 103).map (fun i => (i.zero, i.size, i.bytes)) = some (some (.agg (scs zeroS nilS nilS)), 55, 432) := by kernel_rfl
theorem run_stSnM {w : World} {b o : Nat} {s : Sn} {a1 a2 : Option Addr} {n1 c1 n2 c2 : Nat} (ht : w.there b o 55) : (St 103 (.pointer (some ⟨b, o, none⟩)) (.agg (scs s (.slice a1 n1 c1) (.slice a2 n2 c2)))).run Tryz.prog w = .ok () (w.setCells b o (scs s (.slice a1 n1 c1) (.slice a2 n2 c2)).toList) :=
  run_stMid (by rw [scs_size]; exact ht) (by rw [scs_size]; exact sizeSn) (scs_one _ _ _ _ _ _ _)
section
attribute [local go_sem ↓] bxSn ldSn stSn alSn
attribute [local irreducible] scs
attribute [local go_sem] run_bx run_alSn
variable {X : Cx} {c : Nat} {M : Wm} {w : World} {A : Aw}
set_option maxRecDepth 100000 in
set_option maxHeartbeats 4000000 in
theorem log_any (h : WIs X c M w A) (hq : ∀ s ∈ A.log, s.a.l.length ≤ 1000000000 ∧ s.r.ks.length ≤ 10000000) :
    Calls Tryz.prog 25 #[ptr X.wb] w fun e w' => ∃ g, e = .returned (.slice (some ⟨g, 0, none⟩) A.log.length A.log.length) ∧ Below w.heap.size w w' := by
  obtain ⟨i50, hi50, hz500, hz501, hz502⟩ := info_parts infoS3
  obtain ⟨n, hn⟩ : ∃ n, A.log.length = n := ⟨_, rfl⟩
  have hrow := h.lrow
  rw [hn] at hrow
  obtain ⟨la, lc, hls⟩ := Hp.own_shape hrow
  rw [hls] at hrow
  have hnl : n ≤ 900000 := by have := h.logn; omega
  have HLG : Hid (∀ W, Below w.heap.size w W → ∀ j, j < n → ∃ g0 b s l k, la = some ⟨g0, 0, none⟩ ∧ W.cell? ⟨g0, j, none⟩ = some (ptr b) ∧ Blk W b (scs s l k) 103 ∧ VsOut [] W l s.a.l ∧ KsOut [] W k s.r.ks ∧ s.a.l.length ≤ 1000000000) := Lib.hid fun W hB j hj => by
    have hlen : M.sb.length = A.log.length := h.log.len
    have hjb : j < M.sb.length := by omega
    have hjs : j < A.log.length := by omega
    obtain ⟨l, k, hb, hl, hk⟩ := h.log.el j M.sb[j] A.log[j] (List.getElem?_eq_getElem hjb) (List.getElem?_eq_getElem hjs)
    obtain ⟨q1, q2⟩ := hq _ (List.getElem_mem hjs)
    rcases hrow.2 with ⟨h', h0⟩ | ⟨g0, cap, cur, h', _, hg, _⟩
    · omega
    · simp only [Value.slice.injEq, true_and] at h'
      obtain ⟨rfl, rfl⟩ := h'
      refine ⟨g0, M.sb[j], A.log[j], l, k, rfl, ?_, hb.call hB, (vsOut_in hl).nx (Nx.of_below hB), (ksOut_in hk q2).call hB, q1⟩
      have hgl : g0 < w.heap.size := (show Blk w g0 cur _ from hg).lt
      rw [hB.cell (p := ⟨g0, j, none⟩) hgl, hrow.cellAt j (by omega), List.getElem?_map, List.getElem?_eq_getElem hjb]
      rfl
  have c6 : w.cell? ⟨X.wb, 6, none⟩ = some (.slice la n lc) := by rw [← hls]; exact h.w6
  have hwl : X.wb < w.heap.size := h.wblk.lt
  rw [hn]
  clear h hrow hn hq hls
  go_enter Tryz.func25, Tryz.ntmps25
  go_wp2_with (at_make; refine wpList_make_full _ rfl _ _ 81 rfl w.heap.size 103 i50 (.agg (scs zeroS nilS nilS)) 55 Tryz.underlying81 hi50 hz500 hz501 _ _ _ _ n rfl rfl rfl rfl (by rw [hz502]; omega) (by unfold maxLen; omega) (Nat.le_refl _) ?_; intro w2 hown hgrow; have hb2 : Below w.heap.size w w2 := (Below.refl _ w).grown hgrow (Nat.le_refl _) (fun k hk => by cases hk); have c62 : w2.cell? ⟨X.wb, 6, none⟩ = some (.slice la n lc) := (hb2.cell (p := ⟨X.wb, 6, none⟩) hwl).trans c6; have HB2 := Lib.hid hb2; have HT := Lib.hid (there_own hown); clear hown hgrow hb2)
  go_loopg [4, 5, 17] n (fun g s4 s5 i wr => ∃ j : Nat, j ≤ n ∧ g = n - j ∧ i = .int .i64 j ∧ Below w.heap.size w wr ∧ wr.there w.heap.size 0 (n * 55) ∧ w.heap.size < wr.heap.size)
  case atStart => exact ⟨0, Nat.zero_le _, rfl, rfl, HB2.out, HT.out.1, HT.out.2⟩
  case round =>
    rename World => wr
    obtain ⟨j, hj, rfl, rfl, hB, hT, hG⟩ := hrel
    by_cases hlt : j < n
    · have hji : (j : Int) < n := by omega
      obtain ⟨g0, b, s, l, k, rfl, hc, hbk, hvo, hko, hsl⟩ := HLG.out wr hB j hlt
      have lw := run_ldSn hbk
      have hcp := copied_any s l k hvo hko hsl
      have HBr := Lib.hid hB
      have HTr := Lib.hid hT
      have HGr := Lib.hid hG
      clear hB hT hG hbk hvo hko HB2 HT
      go_wp2_with (go_at_call 46; (with_reducible refine hcp.mono ?_); rintro e w3 ⟨l', k', rfl, ho1, ho2, hb3⟩; obtain ⟨a1, c1, rfl⟩ := Hp.own_shape ho1; obtain ⟨a2, c2, rfl⟩ := Hp.own_shape ho2; have hT3 := there_call HTr.out HGr.out hb3; have st3 := run_stSnM (s := s) (a1 := a1) (n1 := s.a.l.length) (c1 := c1) (a2 := a2) (n2 := s.r.ks.length) (c2 := c2) (there_sub (o := j * 55) (k := 55) hT3 (by omega)); have HT3 := Lib.hid hT3; have HB3 := Lib.hid hb3; clear ho1 ho2 hT3 hb3)
      go_roundg (n - (j + 1))
      case measure => omega
      case rel =>
        refine ⟨j + 1, by omega, rfl, by go_num, below_cells (HBr.out.trans (HB3.out.mono HBr.out.size)) (Nat.le_refl _) _ _, World.there_setCells HT3.out _ _ _, ?_⟩
        rw [(setCells_fr _ _ _ _).2]
        exact Nat.lt_of_lt_of_le HGr.out HB3.out.size
    · obtain rfl : j = n := by omega
      have HBr := Lib.hid hB
      clear hB hT hG
      go_wp2
      go_ret
      exact ⟨_, rfl, HBr.out⟩
end
end Go.Proofs.YtphaefkaeinngaaGreatDoor.Mw

/-
  How deep methods go along a chain: plain mathematics over the worlds' methods.
-/
namespace Go.Proofs.YtphaefkaeinngaaGreatDoor.Mw
open Go Go.RowKit Go.Proofs.YtphaefkaeinngaaGreatDoor.Keys Go.Proofs.YtphaefkaeinngaaGreatDoor.Hp
open Go.Proofs.YtphaefkaeinngaaGreatDoor.Des (Vl Ds zeroV zeroD dcs eqV accF rigF appF)
open Go.Proofs.YtphaefkaeinngaaGreatDoor.Arrs (En lenF leftF reachF)
set_option linter.unusedVariables false
set_option linter.unusedSimpArgs false
def enterA (A : Aw) : Aw := { A with fuel := A.fuel - 1, depth := A.depth + 1, deepest := max A.deepest (A.depth + 1) }
def leaveA (A : Aw) (m o : Int) (a : Aq) (R : Rr × Aw) : Rr × Aw := if abr R.1 then (R.1, { R.2 with depth := R.2.depth - 1 }) else (R.1, { R.2 with depth := R.2.depth - 1, log := R.2.log ++ [⟨m, o, A.log.length, a, R.1⟩] })
section
variable {X : DoT} {C : HandT} {D : DoT} {m o : Int} {a : Aq} {A : Aw} {x : Ob}
theorem body_ok (hx : at? A o = some x) (hm : isMethF m = true) (hf : A.fuel ≠ 0) (hd : ¬ A.depth ≥ A.deep) : bodyF X C D m o a A = leaveA A m o a (perfF X C D m o x.th a (enterA A)) := by
  unfold bodyF
  rw [hx]
  simp only [hm, Bool.not_true, Bool.false_eq_true, if_false, if_neg hf, if_neg hd]
  rfl
end
def subF (X : DoT → DoT) (C : DoT → HandT) : Nat → DoT
  | 0 => fun _ _ _ A => (zeroRr, A)
  | n + 1 => doF X C n
theorem do_body (X : DoT → DoT) (C : DoT → HandT) (k : Nat) : doF X C k = bodyF (X (subF X C k)) (C (subF X C k)) (subF X C k) := by
  cases k <;> rfl
def chTh (n i : Nat) : Th := freshT 0 (if i + 1 < n then objV (i + 1 : Nat) else nullV)
def chOb (n i : Nat) : Ob := ⟨chTh n i, [], []⟩
def chL (n : Nat) : List Ob := (List.range n).map (chOb n)
section
variable {X : DoT → DoT} {C : DoT → HandT}
end
end Go.Proofs.YtphaefkaeinngaaGreatDoor.Mw

/-
  The example: what the plain functions give.
-/
namespace Go.Proofs.YtphaefkaeinngaaGreatDoor.Mw
open Go Go.RowKit Go.Maps Go.Shelf Go.Proofs.YtphaefkaeinngaaGreatDoor.Keys Go.Proofs.YtphaefkaeinngaaGreatDoor.Hp Go.Proofs.YtphaefkaeinngaaGreatDoor.Mo
open Go.Proofs.YtphaefkaeinngaaGreatDoor.Des (Vl Ds zeroV zeroD dcs dcs_size dcs_one)
open Go.Proofs.YtphaefkaeinngaaGreatDoor.Arrs (En ecs ecs_0 ecs_1 ecs_10 ecs_size ecs_list ecs_one ecs_one')
set_option linter.unusedVariables false
def exA : Aw := { newA 100 10 10 with objs := chL 1 }
def exQ : Aq := { zeroQ with k := (⟨#[97]⟩, 0) }
def exR (Xf : DoT → DoT) : Rr × Aw := doF Xf (fun _ => none) 10 7 0 exQ exA
def exS (Xf : DoT → DoT) : Rr × Aw := doF Xf (fun _ => none) 10 3 0 zeroQ (exR Xf).2
theorem al1 (Xf : DoT → DoT) : (exR Xf).1 = ⟨0, zeroV, false, false, zeroD, []⟩ := by kernel_rfl
theorem al2 (Xf : DoT → DoT) : (exS Xf).1.flow = 0 ∧ (exS Xf).1.ok = true ∧ (exS Xf).2.log.length = 4 ∧ (exS Xf).1.ks = [] := by
  refine ⟨?_, ?_, ?_, ?_⟩ <;> kernel_rfl
theorem al3 (Xf : DoT → DoT) : ∀ s ∈ (exS Xf).2.log, s.a.l.length ≤ 1000000000 ∧ s.r.ks.length ≤ 10000000 := by
  have h : (exS Xf).2.log.map (fun s => (s.a.l.length, s.r.ks.length)) = [(0, 0), (0, 0), (0, 0), (0, 0)] := by kernel_rfl
  intro s hs
  have := List.mem_map_of_mem (f := fun s : Sn => (s.a.l.length, s.r.ks.length)) hs
  rw [h] at this
  have h1 : s.a.l.length = 0 ∧ s.r.ks.length = 0 := by simpa using this
  omega
end Go.Proofs.YtphaefkaeinngaaGreatDoor.Mw

/-
  alive.
-/
namespace Go.Proofs.YtphaefkaeinngaaGreatDoor.Mw
open Go Go.RowKit Go.Maps Go.Shelf Go.Proofs.YtphaefkaeinngaaGreatDoor.Keys Go.Proofs.YtphaefkaeinngaaGreatDoor.Hp Go.Proofs.YtphaefkaeinngaaGreatDoor.Mo
open Go.Proofs.YtphaefkaeinngaaGreatDoor.Des (Vl Ds zeroV zeroD dcs dcs_size dcs_one accF rigF appF eqV)
open Go.Proofs.YtphaefkaeinngaaGreatDoor.Arrs (En ecs)
set_option linter.unusedVariables false
set_option linter.unusedSimpArgs false
theorem rcs_0 (r : Rp) : (rcs r)[0]? = some (.int .i64 r.flow) := rfl
theorem rcs_4 (r : Rp) : (rcs r)[4]? = some (.bool r.ok) := rfl
theorem run_bdTpx (w : World) (p : Vl) : (Bd 39 #[(2, .bool true), (1, .agg (vcs p))]).run Tryz.prog w = .ok (.agg (tcs (freshT 0 p))) w := run_build w _ _ _ (by kernel_rfl)
theorem run_bdV1n (w : World) : (Bd 30 #[(0, .int .i64 1)]).run Tryz.prog w = .ok (.agg (vcs nullV)) w := run_build w _ _ _ (by kernel_rfl)
theorem run_bdKa (w : World) : (Bd 32 #[(0, .string ⟨#[97]⟩)]).run Tryz.prog w = .ok (.agg (kcs (⟨#[97]⟩, 0))) w := run_build w _ _ _ (by kernel_rfl)
theorem al_make : makeF (bare (freshT 0 nullV)) [] [] (newA 100 10 10) = exA := by kernel_rfl
theorem al_cr1 (Xf : DoT → DoT) (c : Nat) : cr (exR Xf).1 c = c + 1 := by unfold cr; rw [al1]; rfl
theorem al_cr2 (Xf : DoT → DoT) (c : Nat) : cr (exS Xf).1 c = c + 1 := by
  have h : abr (exS Xf).1 = false := by kernel_rfl
  unfold cr
  rw [h]
  rfl
theorem al_m1 (Xf : DoT → DoT) (kv : Value) : ((exR Xf).1.mem kv).flow = 0 ∧ ((exR Xf).1.mem kv).ok = false := by rw [al1]; exact ⟨rfl, rfl⟩
theorem al_m2 (Xf : DoT → DoT) (kv : Value) : ((exS Xf).1.mem kv).ok = true := (al2 Xf).2.1
attribute [local go_sem ↓] ldR stR alR bxR bdR ldV stV alV bxV bdV ldA stA bxA bdA ldKy bxKy bdKy bdT
attribute [local irreducible] rcs dcs ecs vcs acs kcs xcs tcs
attribute [local go_sem] run_bx run_alR run_stRg run_bdA0 run_bdAk run_bdAkr run_bdAkvr run_bdAr run_bdAkd run_bdRz run_bdRd run_bdRk run_bdRf run_bdRo run_bdRs run_bdRt' run_bdTpx run_bdV1n run_bdKa
section
variable {X : Cx} {c : Nat} {M M' M'' : Wm} {w w' w'' : World} {A A' A'' : Aw} {ls : List Lc} {kl : List (Value × List KV)} {ro : List Lc} {D : DoT}
theorem al_wmake {w w1 : World} {wb : Nat} {M1 : Wm} (h1 : WIs (⟨w, wb, .nilIface, false, 0, min (max 10 0) 1000⟩ : Cx) 100000 M1 w1 (newA 100 10 10)) : Calls Tryz.prog 14 #[ptr M1.hb, .agg (tcs (freshT 0 nullV))] w1 (MakeP (⟨w, wb, .nilIface, false, 0, min (max 10 0) 1000⟩ : Cx) 99999 M1 w1 (newA 100 10 10) ⟨bare (freshT 0 nullV), [], []⟩) :=
  wMake (c := 99999) h1 (th := freshT 0 nullV) (es := []) (vs := []) ⟨⟨none, 0, rfl, fun j e he => by simp at he⟩, ⟨none, 0, rfl, .inl rfl⟩, fun e he => (by cases he), by decide, by decide⟩ (by simp) (by decide) (fun _ => by decide)
theorem al_made {w w1 w2 : World} {wb : Nat} {M1 : Wm} {e : Ending} (hp : MakeP (⟨w, wb, .nilIface, false, 0, min (max 10 0) 1000⟩ : Cx) 99999 M1 w1 (newA 100 10 10) ⟨bare (freshT 0 nullV), [], []⟩ e w2) : e = .returned (.tuple #[.int .i64 0, .bool true]) ∧ ∃ M2, WIs (⟨w, wb, .nilIface, false, 0, min (max 10 0) 1000⟩ : Cx) 99999 M2 w2 exA := by
  unfold MakeP at hp
  rw [if_pos (by decide)] at hp
  obtain ⟨rfl, M2, hb2, h2, n2⟩ := hp
  rw [← al_make]
  exact ⟨rfl, M2, h2⟩
theorem al_do1 {w w2 : World} {wb : Nat} {M2 : Wm} (Xf : DoT → DoT) (h2 : WIs (⟨w, wb, .nilIface, false, 0, min (max 10 0) 1000⟩ : Cx) 99999 M2 w2 exA) : Calls Tryz.prog 16 #[ptr wb, .int .i64 7, .int .i64 0, .agg (acs { zeroQ with k := (⟨#[97]⟩, 0) } nilS)] w2 (Post (⟨w, wb, .nilIface, false, 0, min (max 10 0) 1000⟩ : Cx) 99998 M2 w2 (exR Xf)) :=
  doIs_plain (X := (⟨w, wb, .nilIface, false, 0, min (max 10 0) 1000⟩ : Cx)) (by show min (max (10 : Int) 0) 1000 ≤ 1000; decide) rfl rfl Xf (k := 10) (by show (0 : Int) ≤ 0; decide) (by show (0 : Int) + (10 : Nat) = min (max 10 0) 1000; decide) 99998 M2 w2 exA 7 0 exQ nilS h2 ⟨by decide, by decide, by decide⟩ (VsOut.nil _ _) (by simp [exQ, zeroQ])
theorem al_do2 {w w2 : World} {wb : Nat} {M2 : Wm} (Xf : DoT → DoT) (h2 : WIs (⟨w, wb, .nilIface, false, 0, min (max 10 0) 1000⟩ : Cx) 99999 M2 w2 (exR Xf).2) : Calls Tryz.prog 16 #[ptr wb, .int .i64 3, .int .i64 0, .agg (acs zeroQ nilS)] w2 (Post (⟨w, wb, .nilIface, false, 0, min (max 10 0) 1000⟩ : Cx) 99998 M2 w2 (exS Xf)) :=
  doIs_plain (X := (⟨w, wb, .nilIface, false, 0, min (max 10 0) 1000⟩ : Cx)) (by show min (max (10 : Int) 0) 1000 ≤ 1000; decide) rfl rfl Xf (k := 10) (by show (0 : Int) ≤ 0; decide) (by show (0 : Int) + (10 : Nat) = min (max 10 0) 1000; decide) 99998 M2 w2 (exR Xf).2 3 0 zeroQ nilS h2 fine_zero (VsOut.nil _ _) (by simp [zeroQ])
set_option maxRecDepth 100000 in
set_option maxHeartbeats 4000000 in
theorem alive_any (w : World) (hLw : Nums.Lw w) : Calls Tryz.prog 10 #[] w fun e w' => e = .returned (.bool true) ∧ Below w.heap.size w w' := by
  have hnew := new_any w hLw 100 10 10 100000 (by decide) false (Below.refl _ w)
  obtain ⟨Xf, hXf⟩ : ∃ Xf : DoT → DoT, Xf = fun D => D := ⟨_, rfl⟩
  clear hXf hLw
  go_enter Tryz.func10, Tryz.ntmps10
  go_wp2_with (first
    | (go_at_call 11
       (with_reducible refine hnew.mono ?_)
       rintro e w1 ⟨wb, M1, rfl, h1, -, -, -⟩
       have c0 : w1.cell? ⟨wb, 0, none⟩ = some (ptr M1.hb) := h1.wblk.cell 0
       have hmk := al_wmake h1
       have H1 := Lib.hid h1
       clear h1 hnew)
    | (go_at_call 14
       (with_reducible refine hmk.mono ?_)
       intro e w2 hp
       obtain ⟨rfl, M2, h2⟩ := al_made hp
       have hd := al_do1 Xf h2
       have HF2 := Lib.hid (Fm.start h2)
       clear h2 hp hmk)
    | (go_at_call 16
       (with_reducible refine hd.mono ?_)
       rintro e w3 ⟨M3, kv3, rfl, hks, hM, hn⟩
       have hg3 := Rr.good _ hks
       have F3 := HF2.out.post hks hM hn
       rw [al_cr1] at F3
       have F3 := F3.new (rcs ((exR Xf).1.mem kv3)) 57
       have hd2 := al_do2 Xf F3.wis
       have HF3 := Lib.hid F3
       clear hks hM hn F3 hd)
    | (go_at_call 16
       (with_reducible refine hd2.mono ?_)
       rintro e w5 ⟨M5, kv5, rfl, hks, hM, hn⟩
       have hg5 := Rr.good _ hks
       have F5 := HF3.out.post hks hM hn
       rw [al_cr2] at F5
       have F5 := F5.new (rcs ((exS Xf).1.mem kv5)) 57
       have hlog := log_any F5.wis (al3 Xf)
       rw [(al2 Xf).2.2.1] at hlog
       have q0 := (F5.l1.blk.cell 0).trans (rcs_0 _)
       have q4 := (F5.l1.blk.cell 4).trans (rcs_4 _)
       have p4 := (F5.l0.blk.cell 4).trans (rcs_4 _)
       rw [(al_m1 Xf kv3).1] at q0
       rw [(al_m1 Xf kv3).2] at q4
       rw [al_m2 Xf kv5] at p4
       have HF5 := Lib.hid F5
       clear hks hM hn F5 hd2)
    | (go_at_call 25
       (with_reducible refine hlog.mono ?_)
       rintro e w7 ⟨g7, rfl, hb7⟩
       have HB := Lib.hid (show Below w.heap.size w w7 from HF5.out.wis.bel.trans (hb7.mono HF5.out.wis.bel.size))
       clear hb7 hlog))
  go_ret
  exact ⟨rfl, HB.out⟩
end
end Go.Proofs.YtphaefkaeinngaaGreatDoor.Mw

/-
  Right at a thing that holds nothing.
-/
namespace Go.Proofs.YtphaefkaeinngaaGreatDoor.Mw
open Go Go.RowKit Go.Maps Go.Shelf Go.Proofs.YtphaefkaeinngaaGreatDoor.Keys Go.Proofs.YtphaefkaeinngaaGreatDoor.Hp Go.Proofs.YtphaefkaeinngaaGreatDoor.Mo
open Go.Proofs.YtphaefkaeinngaaGreatDoor.Des (Vl Ds zeroV zeroD dcs dcs_size dcs_one)
open Go.Proofs.YtphaefkaeinngaaGreatDoor.Arrs (En ecs)
set_option linter.unusedVariables false
set_option linter.unusedSimpArgs false
end Go.Proofs.YtphaefkaeinngaaGreatDoor.Mw

/-
  Right at a thing that holds nothing.
-/
namespace Go.Proofs.YtphaefkaeinngaaGreatDoor.Mw
open Go Go.RowKit Go.Maps Go.Shelf Go.Proofs.YtphaefkaeinngaaGreatDoor.Keys Go.Proofs.YtphaefkaeinngaaGreatDoor.Hp Go.Proofs.YtphaefkaeinngaaGreatDoor.Mo
open Go.Proofs.YtphaefkaeinngaaGreatDoor.Des (Vl Ds zeroV zeroD dcs dcs_size dcs_one accF rigF appF eqV)
open Go.Proofs.YtphaefkaeinngaaGreatDoor.Arrs (En ecs)
set_option linter.unusedVariables false
set_option linter.unusedSimpArgs false
attribute [local go_sem ↓] ldR stR alR bxR bdR ldV stV alV bxV bdV ldA stA bxA bdA ldKy bxKy bdKy ldT stT alT
attribute [local irreducible] rcs dcs ecs vcs acs kcs xcs tcs
attribute [local go_sem] run_bx run_alR run_stRg run_bdA0 run_bdAk run_bdAkr run_bdAkvr run_bdAr run_bdAkd run_bdRz run_bdRd run_bdRk run_bdRf run_bdRo run_bdRs run_bdRt' run_bdKs run_alT run_alV
section
variable {X : Cx} {c : Nat} {M M' M'' : Wm} {w w' w'' : World} {A A' A'' : Aw} {ls : List Lc} {kl : List (Value × List KV)} {ro : List Lc} {D : DoT}
end
end Go.Proofs.YtphaefkaeinngaaGreatDoor.Mw

/-
  plain: a world of plain objects, each the next one's prototype.
-/
namespace Go.Proofs.YtphaefkaeinngaaGreatDoor.Mw
open Go Go.RowKit Go.Maps Go.Shelf Go.Proofs.YtphaefkaeinngaaGreatDoor.Keys Go.Proofs.YtphaefkaeinngaaGreatDoor.Hp Go.Proofs.YtphaefkaeinngaaGreatDoor.Mo
open Go.Proofs.YtphaefkaeinngaaGreatDoor.Des (Vl Ds zeroV zeroD dcs dcs_size dcs_one accF rigF appF eqV)
open Go.Proofs.YtphaefkaeinngaaGreatDoor.Arrs (En ecs)
set_option linter.unusedVariables false
set_option linter.unusedSimpArgs false
def plG (p : Vl) (a : Option Addr) (n c : Nat) : Th := { zeroT with proto := p, ext := true, props := .slice a n c }
def rtG (a : Option Addr) (n c : Nat) : Th := { zeroT with proto := nullV, props := .slice a n c }
theorem run_bdPl (w : World) (p : Vl) (a : Option Addr) (n c : Nat) : (Bd 39 #[(1, .agg (vcs p)), (2, .bool true), (3, .slice a n c)]).run Tryz.prog w = .ok (.agg (tcs (plG p a n c))) w := run_build w _ _ _ (by kernel_rfl)
theorem run_bdRt (w : World) (a : Option Addr) (n c : Nat) : (Bd 39 #[(1, .agg (vcs nullV)), (3, .slice a n c)]).run Tryz.prog w = .ok (.agg (tcs (rtG a n c))) w := run_build w _ _ _ (by kernel_rfl)
theorem run_bdN1 (w : World) : (Bd 30 #[(0, .int .i64 1)]).run Tryz.prog w = .ok (.agg (vcs nullV)) w := run_bdV1 w 1
theorem run_bdO6 (w : World) (n : Int) : (Bd 30 #[(0, .int .i64 6), (1, .int .i64 n)]).run Tryz.prog w = .ok (.agg (vcs (objV n))) w := run_bdV2 w 6 n
def BsT (ps : Array (Nat × Value)) : Sem Value := Instr.buildSlice 112 1 ps
theorem bsT (ps : Array (Nat × Value)) : Instr.buildSlice 112 1 ps = BsT ps := (rfl)
section
variable {X : Cx} {c : Nat} {M M' M'' : Wm} {w w' w'' : World} {A A' A'' : Aw}
end
attribute [local go_sem ↓] ldR stR alR bxR bdR ldV stV alV bxV bdV ldA stA bxA bdA ldKy bxKy bdKy ldT stT alT bdT
attribute [local irreducible] rcs dcs ecs vcs acs kcs xcs tcs
attribute [local go_sem] run_bx run_alR run_stRg run_bdA0 run_bdAk run_bdAkr run_bdAkvr run_bdAr run_bdAkd run_bdRz run_bdRd run_bdRk run_bdRf run_bdRo run_bdRs run_bdRt' run_bdKs run_alT run_alV run_stVg
attribute [local go_sem ↓] bsT
attribute [local go_sem] run_bdPl run_bdRt run_bdN1 run_bdO6
section
variable {X : Cx} {c : Nat} {M M' M'' : Wm} {w w' w'' : World}
end
end Go.Proofs.YtphaefkaeinngaaGreatDoor.Mw

/-
  Chains of plain objects: plain mathematics over the worlds' methods.
-/
namespace Go.Proofs.YtphaefkaeinngaaGreatDoor.Mw
open Go Go.RowKit Go.Proofs.YtphaefkaeinngaaGreatDoor.Keys Go.Proofs.YtphaefkaeinngaaGreatDoor.Hp
open Go.Proofs.YtphaefkaeinngaaGreatDoor.Des (Vl Ds zeroV zeroD dcs eqV accF rigF appF)
open Go.Proofs.YtphaefkaeinngaaGreatDoor.Arrs (En lenF leftF)
set_option linter.unusedVariables false
set_option linter.unusedSimpArgs false
def pv : Option Nat → Vl
  | none => nullV
  | some j => objV (j : Nat)
def rgOb (p : Option Nat) : Ob := ⟨freshT 0 (pv p), [], []⟩
inductive Chn (ps : List (Option Nat)) : Nat → List Nat → Prop
  | last (i : Nat) : ps[i]? = some none → Chn ps i [i]
  | next (i j : Nat) (l : List Nat) : ps[i]? = some (some j) → Chn ps j l → Chn ps i (i :: l)
section
variable {ps : List (Option Nat)}
theorem Chn.lt {i : Nat} {l : List Nat} (h : Chn ps i l) : ∀ x ∈ l, x < ps.length := by
  induction h with
  | last i h => intro x hx; rw [List.mem_singleton.1 hx]; exact (List.getElem?_eq_some_iff.1 h).1
  | next i j l h _ ih =>
    intro x hx
    rcases List.mem_cons.1 hx with rfl | hx
    · exact (List.getElem?_eq_some_iff.1 h).1
    · exact ih x hx
theorem Chn.head {i : Nat} {l : List Nat} (h : Chn ps i l) : ∃ r, l = i :: r := by
  cases h with
  | last _ _ => exact ⟨_, rfl⟩
  | next _ _ _ _ _ => exact ⟨_, rfl⟩
theorem Chn.det {i : Nat} {l l' : List Nat} (h : Chn ps i l) (h' : Chn ps i l') : l = l' := by
  induction h generalizing l' with
  | last i h =>
    cases h' with
    | last => rfl
    | next _ j l h2 h3 => rw [h] at h2; cases h2
  | next i j l h _ ih =>
    cases h' with
    | last _ h2 => rw [h] at h2; cases h2
    | next _ j' l2 h2 h3 =>
      rw [h] at h2
      cases h2
      rw [ih h3]
theorem Chn.suf {i x : Nat} {l : List Nat} (h : Chn ps i l) (hx : x ∈ l) : ∃ l1 l2, l = l1 ++ l2 ∧ Chn ps x l2 := by
  induction h with
  | last i h => rw [List.mem_singleton.1 hx]; exact ⟨[], [i], rfl, .last i h⟩
  | next i j l h h1 ih =>
    rcases List.mem_cons.1 hx with rfl | hx
    · exact ⟨[], x :: l, rfl, .next x j l h h1⟩
    · obtain ⟨l1, l2, e, h2⟩ := ih hx
      exact ⟨i :: l1, l2, by rw [e]; rfl, h2⟩
theorem Chn.nodup {i : Nat} {l : List Nat} (h : Chn ps i l) : l.Nodup := by
  induction h with
  | last i h => simp
  | next i j l h h1 ih =>
    rw [List.nodup_cons]
    refine ⟨fun hm => ?_, ih⟩
    obtain ⟨l1, l2, e, h2⟩ := h1.suf hm
    have e2 := (Chn.next i j l h h1).det h2
    have := congrArg List.length e
    have := congrArg List.length e2
    simp at *
    omega
theorem nodup_le : ∀ (n : Nat) (l : List Nat), l.Nodup → (∀ x ∈ l, x < n) → l.length ≤ n := by
  intro n
  induction n with
  | zero =>
    intro l _ h
    cases l with
    | nil => simp
    | cons a l => exact absurd (h a (by simp)) (by omega)
  | succ n ih =>
    intro l hl h
    have h1 := ih (l.erase n) (hl.erase n) fun x hx => by
      have h2 := (List.Nodup.mem_erase_iff hl).1 hx
      have h3 := h x h2.2
      omega
    by_cases hm : n ∈ l
    · have := List.length_erase_of_mem hm
      omega
    · rw [List.erase_of_not_mem hm] at h1
      omega
theorem Chn.len {i : Nat} {l : List Nat} (h : Chn ps i l) : l.length ≤ ps.length := nodup_le _ l h.nodup h.lt
def Ends (ps : List (Option Nat)) : Prop := ∀ i < ps.length, ∃ l, Chn ps i l
theorem Chn.keep {o p i : Nat} {l L : List Nat} (h : Chn ps i l) (ho : o ∉ l) : Chn (ps.set o (some p)) i l := by
  induction h with
  | last i h =>
    refine .last i ?_
    rw [List.getElem?_set_ne (fun e => ho (by simp [e]))]
    exact h
  | next i j l h h1 ih =>
    refine .next i j l ?_ (ih fun hm => ho (by simp [hm]))
    rw [List.getElem?_set_ne (fun e => ho (by simp [e]))]
    exact h
theorem Ends.set (h : Ends ps) {o p : Nat} {L : List Nat} (hL : Chn ps p L) (ho : o ∉ L) (hlt : o < ps.length) : Ends (ps.set o (some p)) := by
  have hk : Chn (ps.set o (some p)) p L := hL.keep (L := []) ho
  have hO : Chn (ps.set o (some p)) o (o :: L) := .next o p L (by simp [hlt]) hk
  intro i hi
  rw [List.length_set] at hi
  obtain ⟨l, hl⟩ := h i hi
  clear hi
  induction hl with
  | last i h1 =>
    by_cases e : i = o
    · rw [e]; exact ⟨_, hO⟩
    · exact ⟨_, .last i (by rw [List.getElem?_set_ne (fun e' => e e'.symm)]; exact h1)⟩
  | next i j l h1 h2 ih =>
    by_cases e : i = o
    · rw [e]; exact ⟨_, hO⟩
    · obtain ⟨l', hl'⟩ := ih
      exact ⟨_, .next i j l' (by rw [List.getElem?_set_ne (fun e' => e e'.symm)]; exact h1) hl'⟩
theorem Ends.none (n : Nat) : Ends (List.replicate n none) := fun i hi => ⟨[i], .last i (by rw [List.length_replicate] at hi; rw [List.getElem?_replicate, if_pos hi])⟩
theorem at_rg {A : Aw} (h : A.objs = ps.map rgOb) (i : Nat) : at? A (i : Int) = (ps[i]?).map rgOb := by
  unfold at?
  rw [if_neg (by omega), h]
  simp
theorem reach_chn {A : Aw} (h : A.objs = ps.map rgOb) (o : Nat) : ∀ {p : Nat} {l : List Nat}, Chn ps p l → ∀ f, l.length ≤ f → Mw.reachF A o f (objV p) = decide (o ∈ l) := by
  intro p l hl
  induction hl with
  | last i h1 =>
    intro f hf
    obtain ⟨g, rfl⟩ : ∃ g, f = g + 1 := ⟨f - 1, by simp at hf; omega⟩
    unfold Mw.reachF
    simp only [show (objV (i : Int)).k = 6 from rfl, if_true, show (objV (i : Int)).n = (i : Int) from rfl, at_rg h, h1, Option.map_some]
    by_cases e : (i : Int) = o
    · have : i = o := by omega
      simp [this]
    · rw [if_neg e]
      have e2 : ¬ o = i := fun e' => e (by rw [e'])
      simp only [show (rgOb none).th.kind = 0 from rfl, show ¬ (0 : Int) = 4 by decide, if_false, show (rgOb none).th.proto = nullV from rfl]
      cases g <;> simp [Mw.reachF, nullV, e2]
  | next i j l h1 h2 ih =>
    intro f hf
    obtain ⟨g, rfl⟩ : ∃ g, f = g + 1 := ⟨f - 1, by simp at hf; omega⟩
    unfold Mw.reachF
    simp only [show (objV (i : Int)).k = 6 from rfl, if_true, show (objV (i : Int)).n = (i : Int) from rfl, at_rg h, h1, Option.map_some]
    by_cases e : (i : Int) = o
    · have : i = o := by omega
      simp [this]
    · rw [if_neg e]
      have e2 : ¬ o = i := fun e' => e (by rw [e'])
      simp only [show (rgOb (some j)).th.kind = 0 from rfl, show ¬ (0 : Int) = 4 by decide, if_false, show (rgOb (some j)).th.proto = objV (j : Nat) from rfl]
      rw [ih g (by simp at hf; omega)]
      simp [e2]
theorem pv_eq (a : Option Nat) (j : Nat) : eqV (objV j) (pv a) = decide (a = some j) := by
  cases a with
  | none => simp [eqV, pv, objV, nullV]
  | some k =>
    simp only [eqV, pv, objV, Option.some.injEq]
    by_cases e : k = j
    · simp [e]
    · have : ¬ (j : Int) = k := by omega
      simp [e, this]
theorem rg_do {X : DoT → DoT} {C : DoT → HandT} {k : Nat} {A : Aw} (h : A.objs = ps.map rgOb) (hE : Ends ps) {o p : Nat} (ho : o < ps.length) {L : List Nat} (hL : Chn ps p L) (hf : A.fuel ≠ 0) (hd : ¬ A.depth ≥ A.deep) :
    ∃ A', doF X C k 2 o { zeroQ with v := objV p } A = (ans (decide (ps[o]? = some (some p)) || !decide (o ∈ L)), A') ∧
      A'.objs = (if o ∈ L then ps else ps.set o (some p)).map rgOb ∧ A'.fuel = A.fuel - 1 ∧ A'.depth = A.depth ∧ A'.deep = A.deep ∧ A'.room = A.room := by
  obtain ⟨q, hq⟩ : ∃ q, ps[o]? = some q := ⟨ps[o], List.getElem?_eq_getElem ho⟩
  have hat : at? A o = some (rgOb q) := by rw [at_rg h, hq]; rfl
  rw [do_body, body_ok hat (by decide) hf hd]
  have e : perfF (X (subF X C k)) (C (subF X C k)) (subF X C k) 2 o (rgOb q).th { zeroQ with v := objV p } (enterA A) = setProtoF o (rgOb q).th (objV p) (enterA A) := by
    simp [perfF, rgOb, freshT, zeroT, ordiF]
  rw [e]
  have hA : (enterA A).objs = ps.map rgOb := h
  have hat2 : at? (enterA A) o = some (rgOb q) := hat
  have hr := reach_chn hA o hL (enterA A).objs.length (by rw [hA, List.length_map]; exact hL.len)
  unfold setProtoF
  rw [show (rgOb q).th.proto = pv q from rfl, pv_eq, hr, hat2]
  simp only [show isObjNull (objV (p : Int)) = true from rfl, Bool.not_true, Bool.false_eq_true, if_false, show (rgOb q).th.ext = true from rfl, Bool.false_or]
  have hset : ps.set o q = ps := by
    apply List.ext_getElem?
    intro i
    rw [List.getElem?_set]
    split
    · rename_i e; subst e; simp [ho]; exact (Option.some.inj ((List.getElem?_eq_getElem ho).symm.trans hq)).symm
    · rfl
  by_cases h1 : q = some p
  · have hps : ps.set o (some p) = ps := h1 ▸ hset
    simp only [h1, hq, decide_true, if_true, leaveA, Bool.true_or, hps, ite_self]
    exact ⟨_, rfl, h, rfl, by show A.depth + 1 - 1 = _; omega, rfl, rfl⟩
  · have h2 : decide (ps[o]? = some (some p)) = false := by rw [hq]; simp [h1]
    rw [h2, show decide (q = some p) = false from decide_eq_false h1]
    simp only [Bool.false_eq_true, if_false, Bool.false_or]
    by_cases hm : o ∈ L
    · simp only [hm, decide_true, if_true, Bool.not_true, leaveA]
      exact ⟨_, rfl, h, rfl, by show A.depth + 1 - 1 = _; omega, rfl, rfl⟩
    · simp only [hm, decide_false, Bool.false_eq_true, if_false, Bool.not_false, leaveA]
      refine ⟨_, rfl, ?_, rfl, by show A.depth + 1 - 1 = _; omega, rfl, rfl⟩
      show (A.objs.set (o : Int).toNat _) = _
      rw [h, List.map_set]
      rfl
end
end Go.Proofs.YtphaefkaeinngaaGreatDoor.Mw
