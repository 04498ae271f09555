/-
  The reference's loops over statements, expressions, names; block, Right, open.
-/
import Derived.Test.YtinoaajohkafmaaGreatMt09
namespace Go.Proofs.YtinoaajohkafmaaGreat.Pr
open Go Go.RowKit Go.Proofs.YtinoaajohkafmaaGreat.Pa Go.Proofs.YtinoaajohkafmaaGreat.Uni
open Go.Proofs.YtinoaajohkafmaaGreat.Lx
set_option linter.unusedVariables false
set_option linter.unusedSimpArgs false
attribute [local go_sem ↓] ldK stK alK bdK bsK ldN stN alN bdN bsN bs_un3 bs_bin12
attribute [local irreducible] kcs ncs ncells un3_cs bin12_cs
attribute [local go_sem] run_alN run_stNg run_ldNg run_bdN0 run_un3 run_bin12
theorem allT_step {p : UInt8} {ts : List Tree} {i : Nat} {t : Tree} (h : ts[i]? = some t) : allT p (ts.drop i) = (okT p t && allT p (ts.drop (i + 1))) := by
  obtain ⟨hl, rfl⟩ := List.getElem?_eq_some_iff.1 h
  rw [List.drop_eq_getElem_cons hl]
  rfl
theorem all_step {ns : List ByteArray} {i : Nat} {t : ByteArray} (h : ns[i]? = some t) : (ns.drop i).all varB = (varB t && (ns.drop (i + 1)).all varB) := by
  obtain ⟨hl, rfl⟩ := List.getElem?_eq_some_iff.1 h
  rw [List.drop_eq_getElem_cons hl]
  rfl
structure SI (p : UInt8) (w wr : World) (ts : List Tree) (i : Nat) (R : Bool) : Prop where
  bel : Below w.heap.size w wr
  le : i ≤ ts.length
  eq : R = allT p (ts.drop i)
set_option maxRecDepth 100000 in
set_option maxHeartbeats 4000000 in
theorem stmts_all {ts : List Tree} (IH : ∀ t ∈ ts, StmC t) : StmsC ts := by
  intro s xs w hl hr hs
  have hn : s.n = ts.length := by rw [hl.1, Rds.len hr]
  have hmx : ts.length ≤ 9223372036854775807 := by have h1 := hl.2.1; have h2 := hl.2.2.1; unfold maxLen at h2; rw [Rds.len hr] at h1; omega
  have hst : SI 83 w w ts 0 (allT 83 ts) := ⟨Below.refl _ _, Nat.zero_le _, rfl⟩
  have HST := Lib.hid hst
  obtain ⟨R, hR⟩ : ∃ R, allT 83 ts = R := ⟨_, rfl⟩
  rw [hR] at HST ⊢
  obtain ⟨m, hm⟩ : ∃ m, ts.length = m := ⟨_, rfl⟩
  rw [hn, hm]
  rw [hm] at hmx
  have hmi : (m : Int) ≤ 9223372036854775807 := by omega
  have HL := Lib.hid hl
  have HR := Lib.hid hr
  have HS := Lib.hid hs
  have HM := Lib.hid hm
  have HN := Lib.hid hn
  have HIH := Lib.hid IH
  clear hst hR hl hr hs hm hn IH hmx
  go_enter Tryz.func30, Tryz.ntmps30
  go_wp2
  go_loopw [3] (fun v wr => ∃ i : Nat, v = .int .i64 (i : Int) ∧ SI 83 w wr ts i R) (fun v _ => m - (intOf v).toNat)
  case atStart => exact ⟨0, rfl, HST.out⟩
  case round =>
    obtain ⟨i, rfl, hI⟩ := hrel
    have hle := hI.le
    have hM := HM.out
    rw [hM] at hle
    by_cases hlt : i < m
    · have hii : (i : Int) < (m : Int) := by omega
      obtain ⟨t, ht⟩ : ∃ t, ts[i]? = some t := ⟨_, List.getElem?_eq_getElem (by omega)⟩
      obtain ⟨x, hx, rx⟩ := HR.out.at ht
      obtain ⟨b, o, q1, -, -, -, z1⟩ := HL.out.where (by rw [Rds.len HR.out]; omega)
      have hq : s.a = some ⟨b, o, none⟩ := by rw [q1]
      obtain ⟨b', o', hq', hlt2, hnd⟩ := HL.out.2.2.2 i x hx
      rw [hq] at hq'
      cases hq'
      have l1 := (hnd.kept (kept_below hI.bel) hlt2).ld
      have l1d : (Ld 25 (.pointer (some ⟨b, o + i * 5, none⟩))).run Tryz.prog wr.drew = .ok (.agg (ncs x)) wr.drew := NdAt.ld (w := wr.drew) (hnd.kept (kept_below hI.bel) hlt2)
      have cc := (HIH.out t (List.mem_of_getElem? ht)) (rx.below hI.bel) (HS.out.at ht)
      have he := hI.eq
      rw [allT_step ht] at he
      have HI := Lib.hid hI
      obtain ⟨r, hr⟩ : ∃ r, okT 83 t = r := ⟨_, rfl⟩
      rw [hr] at cc he
      rw [hq]
      clear q1 z1 hx rx ht hnd hr hlt2 hq
      cases r with
      | true =>
        rw [Bool.true_and] at he
        have HE := Lib.hid he
        clear hI he
        go_wp2_with (go_at_call 52; (with_reducible refine cc.mono ?_); intro e w2 hp; obtain ⟨rfl, hb⟩ := hp; have HB := Lib.hid (HI.out.bel.trans (hb.mono HI.out.bel.size)); clear hb)
        go_roundw
        case rel => exact ⟨i + 1, by go_num, ⟨HB.out, by have := HM.out; omega, HE.out⟩⟩
        case measure => simp [intOf]; omega
      | false =>
        rw [Bool.false_and] at he
        have HE := Lib.hid he
        clear hI he
        go_wp2_with (go_at_call 52; (with_reducible refine cc.mono ?_); intro e w2 hp; obtain ⟨rfl, hb⟩ := hp; have HB := Lib.hid (HI.out.bel.trans (hb.mono HI.out.bel.size)); clear hb)
        go_ret
        exact ⟨by rw [HE.out]; rfl, HB.out⟩
    · have he := hI.eq
      rw [List.drop_eq_nil_of_le (by omega)] at he
      have HI := Lib.hid hI
      have HE := Lib.hid he
      clear hI he
      go_wp2
      go_ret
      exact ⟨by rw [HE.out]; rfl, HI.out.bel⟩
set_option maxRecDepth 100000 in
set_option maxHeartbeats 4000000 in
theorem exps_all {ts : List Tree} (IH : ∀ t ∈ ts, ExpC t) : ExpsC ts := by
  intro s xs w hl hr hs
  have hn : s.n = ts.length := by rw [hl.1, Rds.len hr]
  have hmx : ts.length ≤ 9223372036854775807 := by have h1 := hl.2.1; have h2 := hl.2.2.1; unfold maxLen at h2; rw [Rds.len hr] at h1; omega
  have hst : SI 65 w w ts 0 (allT 65 ts) := ⟨Below.refl _ _, Nat.zero_le _, rfl⟩
  have HST := Lib.hid hst
  obtain ⟨R, hR⟩ : ∃ R, allT 65 ts = R := ⟨_, rfl⟩
  rw [hR] at HST ⊢
  obtain ⟨m, hm⟩ : ∃ m, ts.length = m := ⟨_, rfl⟩
  rw [hn, hm]
  rw [hm] at hmx
  have hmi : (m : Int) ≤ 9223372036854775807 := by omega
  have HL := Lib.hid hl
  have HR := Lib.hid hr
  have HS := Lib.hid hs
  have HM := Lib.hid hm
  have HN := Lib.hid hn
  have HIH := Lib.hid IH
  clear hst hR hl hr hs hm hn IH hmx
  go_enter Tryz.func69, Tryz.ntmps69
  go_wp2
  go_loopw [3] (fun v wr => ∃ i : Nat, v = .int .i64 (i : Int) ∧ SI 65 w wr ts i R) (fun v _ => m - (intOf v).toNat)
  case atStart => exact ⟨0, rfl, HST.out⟩
  case round =>
    obtain ⟨i, rfl, hI⟩ := hrel
    have hle := hI.le
    have hM := HM.out
    rw [hM] at hle
    by_cases hlt : i < m
    · have hii : (i : Int) < (m : Int) := by omega
      obtain ⟨t, ht⟩ : ∃ t, ts[i]? = some t := ⟨_, List.getElem?_eq_getElem (by omega)⟩
      obtain ⟨x, hx, rx⟩ := HR.out.at ht
      obtain ⟨b, o, q1, -, -, -, z1⟩ := HL.out.where (by rw [Rds.len HR.out]; omega)
      have hq : s.a = some ⟨b, o, none⟩ := by rw [q1]
      obtain ⟨b', o', hq', hlt2, hnd⟩ := HL.out.2.2.2 i x hx
      rw [hq] at hq'
      cases hq'
      have l1 := (hnd.kept (kept_below hI.bel) hlt2).ld
      have l1d : (Ld 25 (.pointer (some ⟨b, o + i * 5, none⟩))).run Tryz.prog wr.drew = .ok (.agg (ncs x)) wr.drew := NdAt.ld (w := wr.drew) (hnd.kept (kept_below hI.bel) hlt2)
      have cc := (HIH.out t (List.mem_of_getElem? ht)) (rx.below hI.bel) (HS.out.at ht)
      have he := hI.eq
      rw [allT_step ht] at he
      have HI := Lib.hid hI
      obtain ⟨r, hr⟩ : ∃ r, okT 65 t = r := ⟨_, rfl⟩
      rw [hr] at cc he
      rw [hq]
      clear q1 z1 hx rx ht hnd hr hlt2 hq
      cases r with
      | true =>
        rw [Bool.true_and] at he
        have HE := Lib.hid he
        clear hI he
        go_wp2_with (go_at_call 71; (with_reducible refine cc.mono ?_); intro e w2 hp; obtain ⟨rfl, hb⟩ := hp; have HB := Lib.hid (HI.out.bel.trans (hb.mono HI.out.bel.size)); clear hb)
        go_roundw
        case rel => exact ⟨i + 1, by go_num, ⟨HB.out, by have := HM.out; omega, HE.out⟩⟩
        case measure => simp [intOf]; omega
      | false =>
        rw [Bool.false_and] at he
        have HE := Lib.hid he
        clear hI he
        go_wp2_with (go_at_call 71; (with_reducible refine cc.mono ?_); intro e w2 hp; obtain ⟨rfl, hb⟩ := hp; have HB := Lib.hid (HI.out.bel.trans (hb.mono HI.out.bel.size)); clear hb)
        go_ret
        exact ⟨by rw [HE.out]; rfl, HB.out⟩
    · have he := hI.eq
      rw [List.drop_eq_nil_of_le (by omega)] at he
      have HI := Lib.hid hI
      have HE := Lib.hid he
      clear hI he
      go_wp2
      go_ret
      exact ⟨by rw [HE.out]; rfl, HI.out.bel⟩
theorem Kept.bl {w W : World} (h : Below w.heap.size w W) : Below w.heap.size w W := h
structure BI (w wr : World) (N : Nd) : Prop where
  bel : Below w.heap.size w wr
  box : Blk wr w.heap.size (ncs N) 25
theorem BI.call {w wr w2 : World} {N : Nd} (h : BI w wr N) (hb : Below wr.heap.size wr w2) : BI w w2 N := ⟨h.bel.trans (hb.mono h.bel.size), h.box.call hb⟩
theorem obj_ok {n : Int} {tx : ByteArray} {ns : List ByteArray} {ks : List Tree} : okT 65 (.mk 10 n tx ns ks) = (onlyV false false false n tx ns.length && allT 68 ks) := by
  have h := okKs_rep 68 ks
  rw [okT, tl_data_only]
  simp [hereB, kindB, textB, namesB, numB, elseB, placesB, layB, exL, emptyB, isUp, up_app, up_list, h, Bool.and_assoc, Bool.and_comm, Bool.and_left_comm]
set_option maxRecDepth 100000 in
set_option maxHeartbeats 4000000 in
theorem rex_10 {n : Int} {tx : ByteArray} {ns : List ByteArray} {ks : List Tree} (IH : ∀ t ∈ ks, PairC t) {N : Nd} {w : World} (hr : Rd w (.mk 10 n tx ns ks) N) (hs : Str (.mk 10 n tx ns ks)) : Calls Tryz.prog 71 #[.agg (ncs N)] w (PostR w (.bool (okT 65 (.mk 10 n tx ns ks)))) := by
  obtain ⟨hz, hzn, hzk⟩ := hs.of
  obtain ⟨bN, n0, n1, n2, n3, n4, HB, e1, e2, e3, e4, e5⟩ := nd_start hr
  rw [e1] at n0
  rw [obj_ok]
  have co : ∀ W, Calls Tryz.prog 29 #[.agg (ncs N), .bool false, .bool false, .bool false] W (PostR W (.bool (onlyV false false false n tx ns.length))) := fun W => by
    have := only_fff N W
    unfold onlyB at this
    rw [e2, e3, e4] at this
    exact this
  obtain ⟨o, ho⟩ : ∃ o, onlyV false false false n tx ns.length = o := ⟨_, rfl⟩
  rw [ho] at co ⊢
  have ld := run_ldN bN
  unfold Rd at hr
  obtain ⟨-, -, -, -, xs, hl, hr⟩ := hr
  have hmx : ks.length ≤ 9223372036854775807 := by have h1 := hl.2.1; have h2 := hl.2.2.1; unfold maxLen at h2; rw [Rds.len hr] at h1; omega
  obtain ⟨m, hm⟩ : ∃ m, ks.length = m := ⟨_, rfl⟩
  rw [hm] at hmx
  have hmi : (m : Int) ≤ 9223372036854775807 := by omega
  obtain ⟨a4, c4, hk4⟩ : ∃ a c, N.kids = ⟨a, m, c⟩ := ⟨_, _, by rw [← hm, ← e5]⟩
  rw [hk4] at n4
  obtain ⟨R, hR⟩ : ∃ R, (o && allT 68 ks) = R := ⟨_, rfl⟩
  have hR0 : R = (o && allT 68 (ks.drop 0)) := hR.symm
  rw [hR]
  have HR0 := Lib.hid hR0
  have HBN := Lib.hid bN
  have HL := Lib.hid hl
  have HR := Lib.hid hr
  have HS := Lib.hid hzk
  have HM := Lib.hid hm
  have HK := Lib.hid hk4
  have HIH := Lib.hid IH
  clear hz hzn hzk hr hs e1 e2 e3 e4 e5 bN ho hl hmx hm hk4 hR hR0 IH
  go_enter Tryz.func71, Tryz.ntmps71
  go_wp2_with (go_at_call 29; (with_reducible refine (co _).mono ?_); intro e w2 hp; obtain ⟨rfl, hb⟩ := hp; have HB := Lib.hid (HB.out.trans (hb.mono HB.out.size)); have HBN := Lib.hid (HBN.out.call hb); clear hb)
  go_loopw [4, 5] (fun v u wr => ∃ (i : Nat) (b : Bool), v = .bool b ∧ u = .int .i64 (i : Int) ∧ i ≤ m ∧ BI w wr N ∧ Hid (R = (b && allT 68 (ks.drop i)))) (fun _ u _ => m - (intOf u).toNat)
  case atStart => exact ⟨0, o, rfl, rfl, Nat.zero_le _, ⟨HB.out, HBN.out⟩, HR0⟩
  case round =>
    obtain ⟨i, b, rfl, rfl, hle, hI, hE⟩ := hrel
    have m4 := (hI.box.cell 4).trans (ncs_4 N)
    rw [HK.out] at m4
    simp only at m4
    have m4d : wr.drew.cell? ⟨w.heap.size, 4, none⟩ = some (.slice a4 m c4) := m4
    by_cases hlt : i < m
    · have hii : (i : Int) < (m : Int) := by omega
      obtain ⟨t, ht⟩ : ∃ t, ks[i]? = some t := ⟨_, List.getElem?_eq_getElem (by have := HM.out; omega)⟩
      obtain ⟨x, hx, rx⟩ := HR.out.at ht
      obtain ⟨bb, oo, hq, hlt2, hnd⟩ := HL.out.2.2.2 i x hx
      rw [HK.out] at hq
      simp only at hq
      subst hq
      have l1 := (hnd.kept (kept_below hI.bel) hlt2).ld
      have l1d : (Ld 25 (.pointer (some ⟨bb, oo + i * 5, none⟩))).run Tryz.prog wr.drew = .ok (.agg (ncs x)) wr.drew := NdAt.ld (w := wr.drew) (hnd.kept (kept_below hI.bel) hlt2)
      have cc := (HIH.out t (List.mem_of_getElem? ht)) (rx.below hI.bel) (HS.out.at ht)
      have he := hE.out
      rw [allT_step ht] at he
      have HI := Lib.hid hI
      obtain ⟨r, hr⟩ : ∃ r, okT 68 t = r := ⟨_, rfl⟩
      rw [hr] at cc he
      clear hx rx ht hnd hr hlt2 hE
      cases b with
      | false =>
        have he2 : R = (false && allT 68 (ks.drop (i + 1))) := by rw [he]; simp
        have HE := Lib.hid he2
        clear hI he he2
        go_wp2
        go_roundw
        case rel => exact ⟨i + 1, false, rfl, by go_num, by omega, HI.out, HE⟩
        case measure => simp [intOf]; omega
      | true =>
        rw [Bool.true_and] at he
        have HE := Lib.hid he
        clear hI he
        cases r <;> (
          go_wp2_with (go_at_call 99; (with_reducible refine cc.mono ?_); intro e w2 hp; obtain ⟨rfl, hb⟩ := hp; have HI2 := Lib.hid (HI.out.call hb); clear hb)
          go_roundw
          case rel => exact ⟨i + 1, _, rfl, by go_num, by omega, HI2.out, HE⟩
          case measure => simp [intOf]; omega)
    · have he := hE.out
      rw [List.drop_eq_nil_of_le (by have := HM.out; omega)] at he
      have he2 : R = b := by rw [he]; simp [allT]
      have HE := Lib.hid he2
      have HI := Lib.hid hI
      clear hI he he2 hE
      go_wp2
      go_ret
      exact ⟨by rw [HE.out]; rfl, HI.out.bel⟩
set_option maxRecDepth 100000 in
set_option maxHeartbeats 4000000 in
theorem func_all {k n : Int} {tx : ByteArray} {ns : List ByteArray} {ks : List Tree} (IH : StmsC ks) : FunC (.mk k n tx ns ks) := by
  intro N w hr hs
  obtain ⟨hz, hzn, hzk⟩ := hs.of
  obtain ⟨bN, n0, n1, n2, n3, n4, HB, e1, e2, e3, e4, e5⟩ := nd_start hr
  have ce := kids_st hr IH hzk
  unfold Rd at hr
  obtain ⟨-, -, -, hl, -⟩ := hr
  have hmx : ns.length ≤ 9223372036854775807 := by have h1 := hl.2.1; have h2 := hl.2.2.1; unfold maxLen at h2; omega
  obtain ⟨m, hm⟩ : ∃ m, ns.length = m := ⟨_, rfl⟩
  rw [hm] at hmx
  have hmi : (m : Int) ≤ 9223372036854775807 := by omega
  obtain ⟨a3, c3, hk3⟩ : ∃ a c, N.names = ⟨a, m, c⟩ := ⟨_, _, by rw [← hm, ← e4]⟩
  show Calls _ _ _ _ (PostR w (.bool (ns.all varB && (k == 14 && (n == 0 && allT 83 ks)))))
  obtain ⟨T, hT⟩ : ∃ T, (k == 14 && (n == 0 && allT 83 ks)) = T := ⟨_, rfl⟩
  rw [hT]
  obtain ⟨R, hR⟩ : ∃ R, ns.all varB = R := ⟨_, rfl⟩
  have hR0 : R = (ns.drop 0).all varB := hR.symm
  rw [hR]
  have HR0 := Lib.hid hR0
  have HBN := Lib.hid bN
  have HL := Lib.hid hl
  have HS := Lib.hid hzn
  have HM := Lib.hid hm
  have HK := Lib.hid hk3
  have HT := Lib.hid hT
  have E1 := Lib.hid e1
  have E2 := Lib.hid e2
  clear hz hzn hzk hs e1 e2 e3 e4 e5 bN hl hmx hm hk3 hR hR0 IH hT n0 n1 n2 n3 n4
  go_enter Tryz.func70, Tryz.ntmps70
  go_wp2
  go_loopw [3] (fun u wr => ∃ (i : Nat), u = .int .i64 (i : Int) ∧ i ≤ m ∧ BI w wr N ∧ Hid (R = (ns.drop i).all varB)) (fun u _ => m - (intOf u).toNat)
  case atStart => exact ⟨0, rfl, Nat.zero_le _, ⟨HB.out, HBN.out⟩, HR0⟩
  case round =>
    obtain ⟨i, rfl, hle, hI, hE⟩ := hrel
    have m3 := (hI.box.cell 3).trans (ncs_3 N)
    rw [HK.out] at m3
    simp only at m3
    by_cases hlt : i < m
    · have hii : (i : Int) < (m : Int) := by omega
      obtain ⟨t, ht⟩ : ∃ t, ns[i]? = some t := ⟨_, List.getElem?_eq_getElem (by have := HM.out; omega)⟩
      obtain ⟨bb, oo, hq, hlt2, hnd⟩ := HL.out.2.2.2 i t ht
      rw [HK.out] at hq
      simp only at hq
      subst hq
      have l1 := kept_cell (kept_below hI.bel) hlt2 hnd
      have cc := fun W => plainName_any t W (HS.out t (List.mem_of_getElem? ht))
      have he := hE.out
      rw [all_step ht] at he
      have HI := Lib.hid hI
      obtain ⟨r, hr⟩ : ∃ r, varB t = r := ⟨_, rfl⟩
      rw [hr] at cc he
      clear ht hnd hr hlt2 hE
      cases r with
      | true =>
        rw [Bool.true_and] at he
        have HE := Lib.hid he
        clear hI he
        go_wp2_with (go_at_call 68; (with_reducible refine (cc _).mono ?_); intro e w2 hp; obtain ⟨rfl, hb⟩ := hp; have HI2 := Lib.hid (HI.out.call hb); clear hb)
        go_roundw
        case rel => exact ⟨i + 1, by go_num, by omega, HI2.out, HE⟩
        case measure => simp [intOf]; omega
      | false =>
        rw [Bool.false_and] at he
        have HE := Lib.hid he
        clear hI he
        go_wp2_with (go_at_call 68; (with_reducible refine (cc _).mono ?_); intro e w2 hp; obtain ⟨rfl, hb⟩ := hp; have HI2 := Lib.hid (HI.out.call hb); clear hb)
        go_ret
        exact ⟨by rw [HE.out]; rfl, HI2.out.bel⟩
    · have he := hE.out
      rw [List.drop_eq_nil_of_le (by have := HM.out; omega)] at he
      have HE : Hid (R = true) := Lib.hid he
      have m0 := (hI.box.cell 0).trans (ncs_0 N)
      have m1 := (hI.box.cell 1).trans (ncs_1 N)
      have m4 := (hI.box.cell 4).trans (ncs_4 N)
      rw [E1.out] at m0
      rw [E2.out] at m1
      have cw := ce _ hI.bel
      have HI := Lib.hid hI
      clear hI he hE ce
      have hT := HT.out
      cases h1 : k == 14 with
      | false =>
        rw [h1] at hT
        have HT2 := Lib.hid hT
        clear hT
        go_wp2
        go_ret
        exact ⟨by rw [HE.out, ← HT2.out]; rfl, HI.out.bel⟩
      | true =>
        cases h2 : n == 0 with
        | false =>
          rw [h1, h2] at hT
          have HT2 := Lib.hid hT
          clear hT
          go_wp2
          go_ret
          exact ⟨by rw [HE.out, ← HT2.out]; rfl, HI.out.bel⟩
        | true =>
          rw [h1, h2, Bool.true_and, Bool.true_and] at hT
          rw [hT] at cw
          clear hT
          cases T <;> (
            go_wp2_with (go_at_call 30; (with_reducible refine cw.mono ?_); intro e w2 hp; obtain ⟨rfl, hb⟩ := hp; have HI2 := Lib.hid (HI.out.call hb); clear hb)
            go_ret
            exact ⟨by rw [HE.out]; rfl, HI2.out.bel⟩)
end Go.Proofs.YtinoaajohkafmaaGreat.Pr
