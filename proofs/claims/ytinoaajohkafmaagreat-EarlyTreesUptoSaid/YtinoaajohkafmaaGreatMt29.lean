/-
  The reference's wrong.
-/
import Derived.Test.YtinoaajohkafmaaGreatMt13
import Derived.Test.YtinoaajohkafmaaGreatMt20
import Derived.Test.YtinoaajohkafmaaGreatMt21
import Derived.Test.YtinoaajohkafmaaGreatMt28
namespace Go.Proofs.YtinoaajohkafmaaGreat.Ey
open Go Go.RowKit Go.Maps Go.Proofs.YtinoaajohkafmaaGreat.Pa Go.Proofs.YtinoaajohkafmaaGreat.Pr
open Go.Proofs.YtinoaajohkafmaaGreat.Lx
set_option linter.unusedVariables false
set_option linter.unusedSimpArgs false
attribute [local go_sem ↓] ldK stK alK bdK bsK ldN stN alN bdN bsN
attribute [local irreducible] kcs ncs ncells
attribute [local go_sem] run_alN run_stNg run_ldNg run_bdN0
theorem wrongL_step {f l : Bool} {ts : List Tree} {i : Nat} {t : Tree} (h : ts[i]? = some t) : wrongL f l (ts.drop i) = (wrongT f l t || wrongL f l (ts.drop (i + 1))) := by
  obtain ⟨hl, rfl⟩ := List.getElem?_eq_some_iff.1 h
  rw [List.drop_eq_getElem_cons hl]
  rfl
theorem declL_step {ts : List Tree} {i : Nat} {t : Tree} (h : ts[i]? = some t) : declL (ts.drop i) = (declB t.kind || declL (ts.drop (i + 1))) := by
  obtain ⟨hl, rfl⟩ := List.getElem?_eq_some_iff.1 h
  rw [List.drop_eq_getElem_cons hl]
  rfl
theorem txs_nil (w : World) : Txs w ⟨none, 0, 0⟩ [] := ⟨rfl, Nat.le_refl _, Nat.zero_le _, fun j x h => by simp at h⟩
def WrC (K d : Nat) : Prop := ∀ (t : Tree) (N : Nd) (w : World) (f l : Bool), Bd K d t → Rd w t N → (∃ p, okT p t = true) → Calls Tryz.prog 18 #[.agg (ncs N), .bool f, .bool l] w (PostR w (.bool (wrongT f l t)))
set_option maxRecDepth 100000 in
set_option maxHeartbeats 4000000 in
theorem wrong_else {K d : Nat} (hK : K ≤ 100000) (IH : WrC K d) {n : Int} {tx : ByteArray} {ns : List ByteArray} {ks : List Tree} {N : Nd} {w : World} (f l : Bool) {k : Int} (hd : Bd K (d + 1) (.mk k n tx ns ks)) (hr : Rd w (.mk k n tx ns ks) N) (hp : ∃ p, okT p (.mk k n tx ns ks) = true) (hk : k ≠ 36 ∧ k ≠ 41 ∧ k ≠ 42 ∧ k ≠ 40 ∧ k ≠ 44 ∧ k ≠ 14 ∧ k ≠ 34 ∧ k ≠ 35) : Calls Tryz.prog 18 #[.agg (ncs N), .bool f, .bool l] w (PostR w (.bool (wrongT f l (.mk k n tx ns ks)))) := by
  obtain ⟨bN, n0, n1, n2, n3, n4, HB, e1, e2, e3, e4, e5⟩ := nd_start hr
  rw [e1] at n0
  have HIH := Lib.hid IH
  unfold Bd at hd
  have hF1 : Fun1 ks := by obtain ⟨p, hp⟩ := hp; exact right_fun1 hp
  have hok : ∀ t ∈ ks, ∃ p, okT p t = true := by obtain ⟨p, hp⟩ := hp; exact okKs_at (okT_parts hp).2
  unfold Pr.Rd at hr
  obtain ⟨-, -, -, htx, xs, hl, hr⟩ := hr
  obtain ⟨m, hm⟩ : ∃ m, ks.length = m := ⟨_, rfl⟩
  obtain ⟨m2, hm2⟩ : ∃ m2, ns.length = m2 := ⟨_, rfl⟩
  obtain ⟨a4, c4, hk4⟩ : ∃ a c, N.kids = ⟨a, m, c⟩ := ⟨_, _, by rw [← hm, ← e5]⟩
  obtain ⟨a3, c3, hk3⟩ : ∃ a c, N.names = ⟨a, m2, c⟩ := ⟨_, _, by rw [← hm2, ← e4]⟩
  rw [hk4] at n4
  rw [hk3] at n3
  simp only at n3 n4
  have hml : m ≤ 100000 := by have := hd.1; omega
  have hnl : ns.length ≤ 100000 := by have := hd.2.1; omega
  have HBD := Lib.hid hd.2.2
  have HBN := Lib.hid bN
  have HL := Lib.hid hl
  have HR := Lib.hid hr
  have HM := Lib.hid hm
  have HKK := Lib.hid hk4
  have HK3 := Lib.hid hk3
  have HF1 := Lib.hid hF1
  have HOK := Lib.hid hok
  have HML := Lib.hid hml
  have HNL := Lib.hid hnl
  have HTX := Lib.hid htx
  have HBI : Hid (BI w (w.alloc (.cells (ncs N) 25)) N) := Lib.hid ⟨HB.out, bN⟩
  clear hd hl hr hm hm2 hk4 hk3 hF1 hok hml hnl htx IH hp e1 e2 e3 e4 e5 bN n1 n2
  have f36 : (k == 36) = false := by simp; omega
  have f41 : (k == 41) = false := by simp; omega
  have f42 : (k == 42) = false := by simp; omega
  have f40 : (k == 40) = false := by simp; omega
  have f44 : (k == 44) = false := by simp; omega
  have f14 : (k == 14) = false := by simp; omega
  have f34 : (k == 34) = false := by simp; omega
  have f35 : (k == 35) = false := by simp; omega
  have eW : wrongT f l (.mk k n tx ns ks) = wrongL f l ks := by unfold wrongT; unfold hereW; rw [if_neg (by omega), if_neg (by omega), if_neg (by omega), if_neg (by omega), if_neg (by omega), if_neg (by omega)]; unfold insf insl; rw [if_neg (by omega), if_neg (by omega), if_neg (by omega)]
  rw [eW]
  clear eW
  obtain ⟨R, hR⟩ : ∃ R, wrongL f l ks = R := ⟨_, rfl⟩
  rw [hR]
  clear hk
  go_enter Tryz.func18, Tryz.ntmps18
  go_wp2
  have HR0 : Hid (R = wrongL f l (ks.drop 0)) := Lib.hid hR.symm
  clear hR
  go_loopw [8] (fun u wr => ∃ (i : Nat), u = .int .i64 (i : Int) ∧ i ≤ m ∧ BI w wr N ∧ Hid (R = wrongL f l (ks.drop i))) (fun u _ => m - (intOf u).toNat)
  case atStart => exact ⟨0, rfl, Nat.zero_le _, HBI.out, HR0⟩
  case round =>
    obtain ⟨i, rfl, hle, hI, hE⟩ := hrel
    have m4 := (hI.box.cell 4).trans (ncs_4 N)
    rw [HKK.out] at m4
    simp only at m4
    have m4d : wr.drew.cell? ⟨w.heap.size, 4, none⟩ = some (.slice a4 m c4) := m4
    by_cases hlt : i < m
    · have hii : (i : Int) < (m : Int) := by omega
      have hii2 : decide ((m : Int) ≤ (i : Int)) = false := by simp; omega
      obtain ⟨t, ht⟩ : ∃ t, ks[i]? = some t := ⟨_, List.getElem?_eq_getElem (by have := HM.out; omega)⟩
      obtain ⟨x, hx, rx⟩ := HR.out.at ht
      obtain ⟨bb, oo, hq, hlt2, hnd⟩ := HL.out.2.2.2 i x hx
      rw [HKK.out] at hq
      simp only at hq
      subst hq
      have l1 := (hnd.kept (kept_below hI.bel) hlt2).ld
      have l1d : (Ld 25 (.pointer (some ⟨bb, oo + i * 5, none⟩))).run Tryz.prog wr.drew = .ok (.agg (ncs x)) wr.drew := NdAt.ld (w := wr.drew) (hnd.kept (kept_below hI.bel) hlt2)
      have hbt := HBD.out t (List.mem_of_getElem? ht)
      have hot := HOK.out t (List.mem_of_getElem? ht)
      have cc := HIH.out t x wr f l hbt (rx.below hI.bel) hot
      have ccd := HIH.out t x wr.drew f l hbt (rx.below hI.bel.drew) hot
      have he := hE.out
      rw [wrongL_step ht] at he
      have HI := Lib.hid hI
      have hw : wrap64 ((i : Int) + 1) = i + 1 := by unfold wrap64; have := HM.out; have := HML.out; omega
      have HW := Lib.hid hw
      have HLT := Lib.hid hlt
      obtain ⟨q, hr⟩ : ∃ q, wrongT f l t = q := ⟨_, rfl⟩
      rw [hr] at cc ccd he
      clear hx rx ht hnd hr hlt2 hE hbt hot
      cases q with
      | true =>
        have HE := Lib.hid he
        clear hI he
        go_wp2_with (go_at_call 18; first | ((with_reducible refine cc.mono ?_); intro e w2 hp; obtain ⟨rfl, hb⟩ := hp; have HI2 := Lib.hid (HI.out.call hb); clear hb) | ((with_reducible refine ccd.mono ?_); intro e w2 hp; obtain ⟨rfl, hb⟩ := hp; have HI2 := Lib.hid (HI.out.call ((Below.refl _ _).drew.trans hb)); clear hb))
        go_ret
        exact ⟨by rw [HE.out]; rfl, HI2.out.bel⟩
      | false =>
        rw [Bool.false_or] at he
        have HE := Lib.hid he
        clear hI he
        go_wp2_with (go_at_call 18; first | ((with_reducible refine cc.mono ?_); intro e w2 hp; obtain ⟨rfl, hb⟩ := hp; have HI2 := Lib.hid (HI.out.call hb); clear hb) | ((with_reducible refine ccd.mono ?_); intro e w2 hp; obtain ⟨rfl, hb⟩ := hp; have HI2 := Lib.hid (HI.out.call ((Below.refl _ _).drew.trans hb)); clear hb))
        go_roundw
        case rel => exact ⟨i + 1, by first | rfl | congr 1 | go_num, HLT.out, HI2.out, HE⟩
        case measure => exact meas_w HW.out HLT.out
    · have he := hE.out
      rw [List.drop_eq_nil_of_le (by have := HM.out; omega)] at he
      have he2 : R = false := by rw [he]; rfl
      have hii2 : decide ((m : Int) ≤ (i : Int)) = true := by simp; omega
      have hii3 : ¬ (i : Int) < (m : Int) := by omega
      have HE := Lib.hid he2
      have HI := Lib.hid hI
      clear hI he he2 hE
      go_wp2
      go_ret
      exact ⟨by rw [HE.out]; rfl, HI.out.bel⟩
set_option maxRecDepth 100000 in
set_option maxHeartbeats 4000000 in
theorem wrong_ret {K d : Nat} (hK : K ≤ 100000) (IH : WrC K d) {n : Int} {tx : ByteArray} {ns : List ByteArray} {ks : List Tree} {N : Nd} {w : World} (f l : Bool) {k : Int} (hd : Bd K (d + 1) (.mk k n tx ns ks)) (hr : Rd w (.mk k n tx ns ks) N) (hp : ∃ p, okT p (.mk k n tx ns ks) = true) (hk : k = 36) : Calls Tryz.prog 18 #[.agg (ncs N), .bool f, .bool l] w (PostR w (.bool (wrongT f l (.mk k n tx ns ks)))) := by
  obtain ⟨bN, n0, n1, n2, n3, n4, HB, e1, e2, e3, e4, e5⟩ := nd_start hr
  rw [e1] at n0
  have HIH := Lib.hid IH
  unfold Bd at hd
  have hF1 : Fun1 ks := by obtain ⟨p, hp⟩ := hp; exact right_fun1 hp
  have hok : ∀ t ∈ ks, ∃ p, okT p t = true := by obtain ⟨p, hp⟩ := hp; exact okKs_at (okT_parts hp).2
  unfold Pr.Rd at hr
  obtain ⟨-, -, -, htx, xs, hl, hr⟩ := hr
  obtain ⟨m, hm⟩ : ∃ m, ks.length = m := ⟨_, rfl⟩
  obtain ⟨m2, hm2⟩ : ∃ m2, ns.length = m2 := ⟨_, rfl⟩
  obtain ⟨a4, c4, hk4⟩ : ∃ a c, N.kids = ⟨a, m, c⟩ := ⟨_, _, by rw [← hm, ← e5]⟩
  obtain ⟨a3, c3, hk3⟩ : ∃ a c, N.names = ⟨a, m2, c⟩ := ⟨_, _, by rw [← hm2, ← e4]⟩
  rw [hk4] at n4
  rw [hk3] at n3
  simp only at n3 n4
  have hml : m ≤ 100000 := by have := hd.1; omega
  have hnl : ns.length ≤ 100000 := by have := hd.2.1; omega
  have HBD := Lib.hid hd.2.2
  have HBN := Lib.hid bN
  have HL := Lib.hid hl
  have HR := Lib.hid hr
  have HM := Lib.hid hm
  have HKK := Lib.hid hk4
  have HK3 := Lib.hid hk3
  have HF1 := Lib.hid hF1
  have HOK := Lib.hid hok
  have HML := Lib.hid hml
  have HNL := Lib.hid hnl
  have HTX := Lib.hid htx
  have HBI : Hid (BI w (w.alloc (.cells (ncs N) 25)) N) := Lib.hid ⟨HB.out, bN⟩
  clear hd hl hr hm hm2 hk4 hk3 hF1 hok hml hnl htx IH hp e1 e2 e3 e4 e5 bN n1 n2
  subst hk
  cases f with
  | false =>
    have eW : wrongT false l (.mk 36 n tx ns ks) = true := by unfold wrongT; rfl
    rw [eW]
    clear eW
    go_enter Tryz.func18, Tryz.ntmps18
    go_wp2
    go_ret
    exact ⟨rfl, HB.out⟩
  | true =>
    have eW : wrongT true l (.mk 36 n tx ns ks) = wrongL true l ks := by unfold wrongT; rfl
    rw [eW]
    clear eW
    obtain ⟨R, hR⟩ : ∃ R, wrongL true l ks = R := ⟨_, rfl⟩
    rw [hR]
    go_enter Tryz.func18, Tryz.ntmps18
    go_wp2
    have HR0 : Hid (R = wrongL true l (ks.drop 0)) := Lib.hid hR.symm
    clear hR
    go_loopw [8] (fun u wr => ∃ (i : Nat), u = .int .i64 (i : Int) ∧ i ≤ m ∧ BI w wr N ∧ Hid (R = wrongL true l (ks.drop i))) (fun u _ => m - (intOf u).toNat)
    case atStart => exact ⟨0, rfl, Nat.zero_le _, HBI.out, HR0⟩
    case round =>
      obtain ⟨i, rfl, hle, hI, hE⟩ := hrel
      have m4 := (hI.box.cell 4).trans (ncs_4 N)
      rw [HKK.out] at m4
      simp only at m4
      have m4d : wr.drew.cell? ⟨w.heap.size, 4, none⟩ = some (.slice a4 m c4) := m4
      by_cases hlt : i < m
      · have hii : (i : Int) < (m : Int) := by omega
        have hii2 : decide ((m : Int) ≤ (i : Int)) = false := by simp; omega
        obtain ⟨t, ht⟩ : ∃ t, ks[i]? = some t := ⟨_, List.getElem?_eq_getElem (by have := HM.out; omega)⟩
        obtain ⟨x, hx, rx⟩ := HR.out.at ht
        obtain ⟨bb, oo, hq, hlt2, hnd⟩ := HL.out.2.2.2 i x hx
        rw [HKK.out] at hq
        simp only at hq
        subst hq
        have l1 := (hnd.kept (kept_below hI.bel) hlt2).ld
        have l1d : (Ld 25 (.pointer (some ⟨bb, oo + i * 5, none⟩))).run Tryz.prog wr.drew = .ok (.agg (ncs x)) wr.drew := NdAt.ld (w := wr.drew) (hnd.kept (kept_below hI.bel) hlt2)
        have hbt := HBD.out t (List.mem_of_getElem? ht)
        have hot := HOK.out t (List.mem_of_getElem? ht)
        have cc := HIH.out t x wr true l hbt (rx.below hI.bel) hot
        have ccd := HIH.out t x wr.drew true l hbt (rx.below hI.bel.drew) hot
        have he := hE.out
        rw [wrongL_step ht] at he
        have HI := Lib.hid hI
        have hw : wrap64 ((i : Int) + 1) = i + 1 := by unfold wrap64; have := HM.out; have := HML.out; omega
        have HW := Lib.hid hw
        have HLT := Lib.hid hlt
        obtain ⟨q, hr⟩ : ∃ q, wrongT true l t = q := ⟨_, rfl⟩
        rw [hr] at cc ccd he
        clear hx rx ht hnd hr hlt2 hE hbt hot
        cases q with
        | true =>
          have HE := Lib.hid he
          clear hI he
          go_wp2_with (go_at_call 18; first | ((with_reducible refine cc.mono ?_); intro e w2 hp; obtain ⟨rfl, hb⟩ := hp; have HI2 := Lib.hid (HI.out.call hb); clear hb) | ((with_reducible refine ccd.mono ?_); intro e w2 hp; obtain ⟨rfl, hb⟩ := hp; have HI2 := Lib.hid (HI.out.call ((Below.refl _ _).drew.trans hb)); clear hb))
          go_ret
          exact ⟨by rw [HE.out]; rfl, HI2.out.bel⟩
        | false =>
          rw [Bool.false_or] at he
          have HE := Lib.hid he
          clear hI he
          go_wp2_with (go_at_call 18; first | ((with_reducible refine cc.mono ?_); intro e w2 hp; obtain ⟨rfl, hb⟩ := hp; have HI2 := Lib.hid (HI.out.call hb); clear hb) | ((with_reducible refine ccd.mono ?_); intro e w2 hp; obtain ⟨rfl, hb⟩ := hp; have HI2 := Lib.hid (HI.out.call ((Below.refl _ _).drew.trans hb)); clear hb))
          go_roundw
          case rel => exact ⟨i + 1, by first | rfl | congr 1 | go_num, HLT.out, HI2.out, HE⟩
          case measure => exact meas_w HW.out HLT.out
      · have he := hE.out
        rw [List.drop_eq_nil_of_le (by have := HM.out; omega)] at he
        have he2 : R = false := by rw [he]; rfl
        have hii2 : decide ((m : Int) ≤ (i : Int)) = true := by simp; omega
        have hii3 : ¬ (i : Int) < (m : Int) := by omega
        have HE := Lib.hid he2
        have HI := Lib.hid hI
        clear hI he he2 hE
        go_wp2
        go_ret
        exact ⟨by rw [HE.out]; rfl, HI.out.bel⟩
set_option maxRecDepth 100000 in
set_option maxHeartbeats 4000000 in
theorem wrong_jump {K d : Nat} (hK : K ≤ 100000) (IH : WrC K d) {n : Int} {tx : ByteArray} {ns : List ByteArray} {ks : List Tree} {N : Nd} {w : World} (f l : Bool) {k : Int} (hd : Bd K (d + 1) (.mk k n tx ns ks)) (hr : Rd w (.mk k n tx ns ks) N) (hp : ∃ p, okT p (.mk k n tx ns ks) = true) (hk : k = 41 ∨ k = 42) : Calls Tryz.prog 18 #[.agg (ncs N), .bool f, .bool l] w (PostR w (.bool (wrongT f l (.mk k n tx ns ks)))) := by
  obtain ⟨bN, n0, n1, n2, n3, n4, HB, e1, e2, e3, e4, e5⟩ := nd_start hr
  rw [e1] at n0
  have HIH := Lib.hid IH
  unfold Bd at hd
  have hF1 : Fun1 ks := by obtain ⟨p, hp⟩ := hp; exact right_fun1 hp
  have hok : ∀ t ∈ ks, ∃ p, okT p t = true := by obtain ⟨p, hp⟩ := hp; exact okKs_at (okT_parts hp).2
  unfold Pr.Rd at hr
  obtain ⟨-, -, -, htx, xs, hl, hr⟩ := hr
  obtain ⟨m, hm⟩ : ∃ m, ks.length = m := ⟨_, rfl⟩
  obtain ⟨m2, hm2⟩ : ∃ m2, ns.length = m2 := ⟨_, rfl⟩
  obtain ⟨a4, c4, hk4⟩ : ∃ a c, N.kids = ⟨a, m, c⟩ := ⟨_, _, by rw [← hm, ← e5]⟩
  obtain ⟨a3, c3, hk3⟩ : ∃ a c, N.names = ⟨a, m2, c⟩ := ⟨_, _, by rw [← hm2, ← e4]⟩
  rw [hk4] at n4
  rw [hk3] at n3
  simp only at n3 n4
  have hml : m ≤ 100000 := by have := hd.1; omega
  have hnl : ns.length ≤ 100000 := by have := hd.2.1; omega
  have HBD := Lib.hid hd.2.2
  have HBN := Lib.hid bN
  have HL := Lib.hid hl
  have HR := Lib.hid hr
  have HM := Lib.hid hm
  have HKK := Lib.hid hk4
  have HK3 := Lib.hid hk3
  have HF1 := Lib.hid hF1
  have HOK := Lib.hid hok
  have HML := Lib.hid hml
  have HNL := Lib.hid hnl
  have HTX := Lib.hid htx
  have HBI : Hid (BI w (w.alloc (.cells (ncs N) 25)) N) := Lib.hid ⟨HB.out, bN⟩
  clear hd hl hr hm hm2 hk4 hk3 hF1 hok hml hnl htx IH hp e1 e2 e3 e4 e5 bN n1 n2
  rcases hk with rfl | rfl
  · have eW : wrongT f l (.mk 41 n tx ns ks) = !l := by unfold wrongT; rfl
    rw [eW]
    clear eW
    go_enter Tryz.func18, Tryz.ntmps18
    go_wp2
    go_ret
    exact ⟨rfl, HB.out⟩
  · have eW : wrongT f l (.mk 42 n tx ns ks) = !l := by unfold wrongT; rfl
    rw [eW]
    clear eW
    go_enter Tryz.func18, Tryz.ntmps18
    go_wp2
    go_ret
    exact ⟨rfl, HB.out⟩
set_option maxRecDepth 100000 in
set_option maxHeartbeats 4000000 in
theorem wrong_scope {K d : Nat} (hK : K ≤ 100000) (IH : WrC K d) {n : Int} {tx : ByteArray} {ns : List ByteArray} {ks : List Tree} {N : Nd} {w : World} (f l : Bool) {k : Int} (hd : Bd K (d + 1) (.mk k n tx ns ks)) (hr : Rd w (.mk k n tx ns ks) N) (hp : ∃ p, okT p (.mk k n tx ns ks) = true) (hk : k = 40 ∨ k = 44) : Calls Tryz.prog 18 #[.agg (ncs N), .bool f, .bool l] w (PostR w (.bool (wrongT f l (.mk k n tx ns ks)))) := by
  obtain ⟨bN, n0, n1, n2, n3, n4, HB, e1, e2, e3, e4, e5⟩ := nd_start hr
  rw [e1] at n0
  have HIH := Lib.hid IH
  unfold Bd at hd
  have hF1 : Fun1 ks := by obtain ⟨p, hp⟩ := hp; exact right_fun1 hp
  have hok : ∀ t ∈ ks, ∃ p, okT p t = true := by obtain ⟨p, hp⟩ := hp; exact okKs_at (okT_parts hp).2
  unfold Pr.Rd at hr
  obtain ⟨-, -, -, htx, xs, hl, hr⟩ := hr
  obtain ⟨m, hm⟩ : ∃ m, ks.length = m := ⟨_, rfl⟩
  obtain ⟨m2, hm2⟩ : ∃ m2, ns.length = m2 := ⟨_, rfl⟩
  obtain ⟨a4, c4, hk4⟩ : ∃ a c, N.kids = ⟨a, m, c⟩ := ⟨_, _, by rw [← hm, ← e5]⟩
  obtain ⟨a3, c3, hk3⟩ : ∃ a c, N.names = ⟨a, m2, c⟩ := ⟨_, _, by rw [← hm2, ← e4]⟩
  rw [hk4] at n4
  rw [hk3] at n3
  simp only at n3 n4
  have hml : m ≤ 100000 := by have := hd.1; omega
  have hnl : ns.length ≤ 100000 := by have := hd.2.1; omega
  have HBD := Lib.hid hd.2.2
  have HBN := Lib.hid bN
  have HL := Lib.hid hl
  have HR := Lib.hid hr
  have HM := Lib.hid hm
  have HKK := Lib.hid hk4
  have HK3 := Lib.hid hk3
  have HF1 := Lib.hid hF1
  have HOK := Lib.hid hok
  have HML := Lib.hid hml
  have HNL := Lib.hid hnl
  have HTX := Lib.hid htx
  have HBI : Hid (BI w (w.alloc (.cells (ncs N) 25)) N) := Lib.hid ⟨HB.out, bN⟩
  clear hd hl hr hm hm2 hk4 hk3 hF1 hok hml hnl htx IH hp e1 e2 e3 e4 e5 bN n1 n2
  rcases hk with rfl | rfl
  · have hct := fun (W : World) (h : Below w.heap.size w W) => rtwice_any (w := W) (s := N.kids) (sn := ⟨none, 0, 0⟩) (ks := ks) (ns := []) (Lst.kept (kept_below h) HL.out) (HR.out.below h) (txs_nil W) (Nat.zero_le _) (by have := HM.out; have := HML.out; omega) HF1.out
    simp only [List.nil_append] at hct
    rw [HKK.out] at hct
    simp only at hct
    obtain ⟨Q, hQ⟩ : ∃ Q, dupF [] (declN ks) = Q := ⟨_, rfl⟩
    have eW : wrongT f l (.mk 40 n tx ns ks) = (Q || wrongL f l ks) := by rw [← hQ]; unfold wrongT; show (match (if dupF [] (declN ks) then some true else none) with | some b => b | none => _) = _; cases dupF [] (declN ks) <;> rfl
    rw [eW]
    rw [hQ] at hct
    clear eW hQ
    have HCT := Lib.hid hct
    clear hct
    cases Q with
    | true =>
      go_enter Tryz.func18, Tryz.ntmps18
      go_wp2_with (go_at_call 31; (with_reducible refine (HCT.out _ HB.out).mono ?_); intro e w2 hp; obtain ⟨rfl, hb⟩ := hp; have HBI2 := Lib.hid (HBI.out.call hb); clear hb HBI)
      go_ret
      exact ⟨rfl, HBI2.out.bel⟩
    | false =>
      rw [Bool.false_or]
      obtain ⟨R, hR⟩ : ∃ R, wrongL f l ks = R := ⟨_, rfl⟩
      rw [hR]
      go_enter Tryz.func18, Tryz.ntmps18
      go_wp2_with (go_at_call 31; (with_reducible refine (HCT.out _ HB.out).mono ?_); intro e w2 hp; obtain ⟨rfl, hb⟩ := hp; have HBI2 := Lib.hid (HBI.out.call hb); clear hb HBI)
      have HBI := HBI2
      have HR0 : Hid (R = wrongL f l (ks.drop 0)) := Lib.hid hR.symm
      clear hR
      go_loopw [8] (fun u wr => ∃ (i : Nat), u = .int .i64 (i : Int) ∧ i ≤ m ∧ BI w wr N ∧ Hid (R = wrongL f l (ks.drop i))) (fun u _ => m - (intOf u).toNat)
      case atStart => exact ⟨0, rfl, Nat.zero_le _, HBI.out, HR0⟩
      case round =>
        obtain ⟨i, rfl, hle, hI, hE⟩ := hrel
        have m4 := (hI.box.cell 4).trans (ncs_4 N)
        rw [HKK.out] at m4
        simp only at m4
        have m4d : wr.drew.cell? ⟨w.heap.size, 4, none⟩ = some (.slice a4 m c4) := m4
        by_cases hlt : i < m
        · have hii : (i : Int) < (m : Int) := by omega
          have hii2 : decide ((m : Int) ≤ (i : Int)) = false := by simp; omega
          obtain ⟨t, ht⟩ : ∃ t, ks[i]? = some t := ⟨_, List.getElem?_eq_getElem (by have := HM.out; omega)⟩
          obtain ⟨x, hx, rx⟩ := HR.out.at ht
          obtain ⟨bb, oo, hq, hlt2, hnd⟩ := HL.out.2.2.2 i x hx
          rw [HKK.out] at hq
          simp only at hq
          subst hq
          have l1 := (hnd.kept (kept_below hI.bel) hlt2).ld
          have l1d : (Ld 25 (.pointer (some ⟨bb, oo + i * 5, none⟩))).run Tryz.prog wr.drew = .ok (.agg (ncs x)) wr.drew := NdAt.ld (w := wr.drew) (hnd.kept (kept_below hI.bel) hlt2)
          have hbt := HBD.out t (List.mem_of_getElem? ht)
          have hot := HOK.out t (List.mem_of_getElem? ht)
          have cc := HIH.out t x wr f l hbt (rx.below hI.bel) hot
          have ccd := HIH.out t x wr.drew f l hbt (rx.below hI.bel.drew) hot
          have he := hE.out
          rw [wrongL_step ht] at he
          have HI := Lib.hid hI
          have hw : wrap64 ((i : Int) + 1) = i + 1 := by unfold wrap64; have := HM.out; have := HML.out; omega
          have HW := Lib.hid hw
          have HLT := Lib.hid hlt
          obtain ⟨q, hr⟩ : ∃ q, wrongT f l t = q := ⟨_, rfl⟩
          rw [hr] at cc ccd he
          clear hx rx ht hnd hr hlt2 hE hbt hot
          cases q with
          | true =>
            have HE := Lib.hid he
            clear hI he
            go_wp2_with (go_at_call 18; first | ((with_reducible refine cc.mono ?_); intro e w2 hp; obtain ⟨rfl, hb⟩ := hp; have HI2 := Lib.hid (HI.out.call hb); clear hb) | ((with_reducible refine ccd.mono ?_); intro e w2 hp; obtain ⟨rfl, hb⟩ := hp; have HI2 := Lib.hid (HI.out.call ((Below.refl _ _).drew.trans hb)); clear hb))
            go_ret
            exact ⟨by rw [HE.out]; rfl, HI2.out.bel⟩
          | false =>
            rw [Bool.false_or] at he
            have HE := Lib.hid he
            clear hI he
            go_wp2_with (go_at_call 18; first | ((with_reducible refine cc.mono ?_); intro e w2 hp; obtain ⟨rfl, hb⟩ := hp; have HI2 := Lib.hid (HI.out.call hb); clear hb) | ((with_reducible refine ccd.mono ?_); intro e w2 hp; obtain ⟨rfl, hb⟩ := hp; have HI2 := Lib.hid (HI.out.call ((Below.refl _ _).drew.trans hb)); clear hb))
            go_roundw
            case rel => exact ⟨i + 1, by first | rfl | congr 1 | go_num, HLT.out, HI2.out, HE⟩
            case measure => exact meas_w HW.out HLT.out
        · have he := hE.out
          rw [List.drop_eq_nil_of_le (by have := HM.out; omega)] at he
          have he2 : R = false := by rw [he]; rfl
          have hii2 : decide ((m : Int) ≤ (i : Int)) = true := by simp; omega
          have hii3 : ¬ (i : Int) < (m : Int) := by omega
          have HE := Lib.hid he2
          have HI := Lib.hid hI
          clear hI he he2 hE
          go_wp2
          go_ret
          exact ⟨by rw [HE.out]; rfl, HI.out.bel⟩
  · have hct := fun (W : World) (h : Below w.heap.size w W) => rtwice_any (w := W) (s := N.kids) (sn := ⟨none, 0, 0⟩) (ks := ks) (ns := []) (Lst.kept (kept_below h) HL.out) (HR.out.below h) (txs_nil W) (Nat.zero_le _) (by have := HM.out; have := HML.out; omega) HF1.out
    simp only [List.nil_append] at hct
    rw [HKK.out] at hct
    simp only at hct
    obtain ⟨Q, hQ⟩ : ∃ Q, dupF [] (declN ks) = Q := ⟨_, rfl⟩
    have eW : wrongT f l (.mk 44 n tx ns ks) = (Q || wrongL f l ks) := by rw [← hQ]; unfold wrongT; show (match (if dupF [] (declN ks) then some true else none) with | some b => b | none => _) = _; cases dupF [] (declN ks) <;> rfl
    rw [eW]
    rw [hQ] at hct
    clear eW hQ
    have HCT := Lib.hid hct
    clear hct
    cases Q with
    | true =>
      go_enter Tryz.func18, Tryz.ntmps18
      go_wp2_with (go_at_call 31; (with_reducible refine (HCT.out _ HB.out).mono ?_); intro e w2 hp; obtain ⟨rfl, hb⟩ := hp; have HBI2 := Lib.hid (HBI.out.call hb); clear hb HBI)
      go_ret
      exact ⟨rfl, HBI2.out.bel⟩
    | false =>
      rw [Bool.false_or]
      obtain ⟨R, hR⟩ : ∃ R, wrongL f l ks = R := ⟨_, rfl⟩
      rw [hR]
      go_enter Tryz.func18, Tryz.ntmps18
      go_wp2_with (go_at_call 31; (with_reducible refine (HCT.out _ HB.out).mono ?_); intro e w2 hp; obtain ⟨rfl, hb⟩ := hp; have HBI2 := Lib.hid (HBI.out.call hb); clear hb HBI)
      have HBI := HBI2
      have HR0 : Hid (R = wrongL f l (ks.drop 0)) := Lib.hid hR.symm
      clear hR
      go_loopw [8] (fun u wr => ∃ (i : Nat), u = .int .i64 (i : Int) ∧ i ≤ m ∧ BI w wr N ∧ Hid (R = wrongL f l (ks.drop i))) (fun u _ => m - (intOf u).toNat)
      case atStart => exact ⟨0, rfl, Nat.zero_le _, HBI.out, HR0⟩
      case round =>
        obtain ⟨i, rfl, hle, hI, hE⟩ := hrel
        have m4 := (hI.box.cell 4).trans (ncs_4 N)
        rw [HKK.out] at m4
        simp only at m4
        have m4d : wr.drew.cell? ⟨w.heap.size, 4, none⟩ = some (.slice a4 m c4) := m4
        by_cases hlt : i < m
        · have hii : (i : Int) < (m : Int) := by omega
          have hii2 : decide ((m : Int) ≤ (i : Int)) = false := by simp; omega
          obtain ⟨t, ht⟩ : ∃ t, ks[i]? = some t := ⟨_, List.getElem?_eq_getElem (by have := HM.out; omega)⟩
          obtain ⟨x, hx, rx⟩ := HR.out.at ht
          obtain ⟨bb, oo, hq, hlt2, hnd⟩ := HL.out.2.2.2 i x hx
          rw [HKK.out] at hq
          simp only at hq
          subst hq
          have l1 := (hnd.kept (kept_below hI.bel) hlt2).ld
          have l1d : (Ld 25 (.pointer (some ⟨bb, oo + i * 5, none⟩))).run Tryz.prog wr.drew = .ok (.agg (ncs x)) wr.drew := NdAt.ld (w := wr.drew) (hnd.kept (kept_below hI.bel) hlt2)
          have hbt := HBD.out t (List.mem_of_getElem? ht)
          have hot := HOK.out t (List.mem_of_getElem? ht)
          have cc := HIH.out t x wr f l hbt (rx.below hI.bel) hot
          have ccd := HIH.out t x wr.drew f l hbt (rx.below hI.bel.drew) hot
          have he := hE.out
          rw [wrongL_step ht] at he
          have HI := Lib.hid hI
          have hw : wrap64 ((i : Int) + 1) = i + 1 := by unfold wrap64; have := HM.out; have := HML.out; omega
          have HW := Lib.hid hw
          have HLT := Lib.hid hlt
          obtain ⟨q, hr⟩ : ∃ q, wrongT f l t = q := ⟨_, rfl⟩
          rw [hr] at cc ccd he
          clear hx rx ht hnd hr hlt2 hE hbt hot
          cases q with
          | true =>
            have HE := Lib.hid he
            clear hI he
            go_wp2_with (go_at_call 18; first | ((with_reducible refine cc.mono ?_); intro e w2 hp; obtain ⟨rfl, hb⟩ := hp; have HI2 := Lib.hid (HI.out.call hb); clear hb) | ((with_reducible refine ccd.mono ?_); intro e w2 hp; obtain ⟨rfl, hb⟩ := hp; have HI2 := Lib.hid (HI.out.call ((Below.refl _ _).drew.trans hb)); clear hb))
            go_ret
            exact ⟨by rw [HE.out]; rfl, HI2.out.bel⟩
          | false =>
            rw [Bool.false_or] at he
            have HE := Lib.hid he
            clear hI he
            go_wp2_with (go_at_call 18; first | ((with_reducible refine cc.mono ?_); intro e w2 hp; obtain ⟨rfl, hb⟩ := hp; have HI2 := Lib.hid (HI.out.call hb); clear hb) | ((with_reducible refine ccd.mono ?_); intro e w2 hp; obtain ⟨rfl, hb⟩ := hp; have HI2 := Lib.hid (HI.out.call ((Below.refl _ _).drew.trans hb)); clear hb))
            go_roundw
            case rel => exact ⟨i + 1, by first | rfl | congr 1 | go_num, HLT.out, HI2.out, HE⟩
            case measure => exact meas_w HW.out HLT.out
        · have he := hE.out
          rw [List.drop_eq_nil_of_le (by have := HM.out; omega)] at he
          have he2 : R = false := by rw [he]; rfl
          have hii2 : decide ((m : Int) ≤ (i : Int)) = true := by simp; omega
          have hii3 : ¬ (i : Int) < (m : Int) := by omega
          have HE := Lib.hid he2
          have HI := Lib.hid hI
          clear hI he he2 hE
          go_wp2
          go_ret
          exact ⟨by rw [HE.out]; rfl, HI.out.bel⟩
set_option maxRecDepth 100000 in
set_option maxHeartbeats 4000000 in
theorem wrong_fun {K d : Nat} (hK : K ≤ 100000) (IH : WrC K d) {n : Int} {tx : ByteArray} {ns : List ByteArray} {ks : List Tree} {N : Nd} {w : World} (f l : Bool) {k : Int} (hd : Bd K (d + 1) (.mk k n tx ns ks)) (hr : Rd w (.mk k n tx ns ks) N) (hp : ∃ p, okT p (.mk k n tx ns ks) = true) (hk : k = 14) : Calls Tryz.prog 18 #[.agg (ncs N), .bool f, .bool l] w (PostR w (.bool (wrongT f l (.mk k n tx ns ks)))) := by
  obtain ⟨bN, n0, n1, n2, n3, n4, HB, e1, e2, e3, e4, e5⟩ := nd_start hr
  rw [e1] at n0
  have HIH := Lib.hid IH
  unfold Bd at hd
  have hF1 : Fun1 ks := by obtain ⟨p, hp⟩ := hp; exact right_fun1 hp
  have hok : ∀ t ∈ ks, ∃ p, okT p t = true := by obtain ⟨p, hp⟩ := hp; exact okKs_at (okT_parts hp).2
  unfold Pr.Rd at hr
  obtain ⟨-, -, -, htx, xs, hl, hr⟩ := hr
  obtain ⟨m, hm⟩ : ∃ m, ks.length = m := ⟨_, rfl⟩
  obtain ⟨m2, hm2⟩ : ∃ m2, ns.length = m2 := ⟨_, rfl⟩
  obtain ⟨a4, c4, hk4⟩ : ∃ a c, N.kids = ⟨a, m, c⟩ := ⟨_, _, by rw [← hm, ← e5]⟩
  obtain ⟨a3, c3, hk3⟩ : ∃ a c, N.names = ⟨a, m2, c⟩ := ⟨_, _, by rw [← hm2, ← e4]⟩
  rw [hk4] at n4
  rw [hk3] at n3
  simp only at n3 n4
  have hml : m ≤ 100000 := by have := hd.1; omega
  have hnl : ns.length ≤ 100000 := by have := hd.2.1; omega
  have HBD := Lib.hid hd.2.2
  have HBN := Lib.hid bN
  have HL := Lib.hid hl
  have HR := Lib.hid hr
  have HM := Lib.hid hm
  have HKK := Lib.hid hk4
  have HK3 := Lib.hid hk3
  have HF1 := Lib.hid hF1
  have HOK := Lib.hid hok
  have HML := Lib.hid hml
  have HNL := Lib.hid hnl
  have HTX := Lib.hid htx
  have HBI : Hid (BI w (w.alloc (.cells (ncs N) 25)) N) := Lib.hid ⟨HB.out, bN⟩
  clear hd hl hr hm hm2 hk4 hk3 hF1 hok hml hnl htx IH hp e1 e2 e3 e4 e5 bN n1 n2
  subst hk
  have hct := fun (W : World) (h : Below w.heap.size w W) => rtwice_any (w := W) (s := N.kids) (sn := N.names) (ks := ks) (ns := ns) (Lst.kept (kept_below h) HL.out) (HR.out.below h) (Txs.kept (kept_below h) HTX.out) HNL.out (by have := HM.out; have := HML.out; omega) HF1.out
  rw [HKK.out] at hct
  rw [HK3.out] at hct
  simp only at hct
  obtain ⟨Q, hQ⟩ : ∃ Q, dupF [] (ns ++ declN ks) = Q := ⟨_, rfl⟩
  have eW : wrongT f l (.mk 14 n tx ns ks) = (Q || wrongL true false ks) := by rw [← hQ]; unfold wrongT; show (match (if dupF [] (ns ++ declN ks) then some true else none) with | some b => b | none => _) = _; cases dupF [] (ns ++ declN ks) <;> rfl
  rw [eW]
  rw [hQ] at hct
  clear eW hQ
  have HCT := Lib.hid hct
  clear hct
  cases Q with
  | true =>
    go_enter Tryz.func18, Tryz.ntmps18
    go_wp2_with (go_at_call 31; (with_reducible refine (HCT.out _ HB.out).mono ?_); intro e w2 hp; obtain ⟨rfl, hb⟩ := hp; have HBI2 := Lib.hid (HBI.out.call hb); clear hb HBI)
    go_ret
    exact ⟨rfl, HBI2.out.bel⟩
  | false =>
    rw [Bool.false_or]
    obtain ⟨R, hR⟩ : ∃ R, wrongL true false ks = R := ⟨_, rfl⟩
    rw [hR]
    go_enter Tryz.func18, Tryz.ntmps18
    go_wp2_with (go_at_call 31; (with_reducible refine (HCT.out _ HB.out).mono ?_); intro e w2 hp; obtain ⟨rfl, hb⟩ := hp; have HBI2 := Lib.hid (HBI.out.call hb); clear hb HBI)
    have HBI := HBI2
    have HR0 : Hid (R = wrongL true false (ks.drop 0)) := Lib.hid hR.symm
    clear hR
    go_loopw [8] (fun u wr => ∃ (i : Nat), u = .int .i64 (i : Int) ∧ i ≤ m ∧ BI w wr N ∧ Hid (R = wrongL true false (ks.drop i))) (fun u _ => m - (intOf u).toNat)
    case atStart => exact ⟨0, rfl, Nat.zero_le _, HBI.out, HR0⟩
    case round =>
      obtain ⟨i, rfl, hle, hI, hE⟩ := hrel
      have m4 := (hI.box.cell 4).trans (ncs_4 N)
      rw [HKK.out] at m4
      simp only at m4
      have m4d : wr.drew.cell? ⟨w.heap.size, 4, none⟩ = some (.slice a4 m c4) := m4
      by_cases hlt : i < m
      · have hii : (i : Int) < (m : Int) := by omega
        have hii2 : decide ((m : Int) ≤ (i : Int)) = false := by simp; omega
        obtain ⟨t, ht⟩ : ∃ t, ks[i]? = some t := ⟨_, List.getElem?_eq_getElem (by have := HM.out; omega)⟩
        obtain ⟨x, hx, rx⟩ := HR.out.at ht
        obtain ⟨bb, oo, hq, hlt2, hnd⟩ := HL.out.2.2.2 i x hx
        rw [HKK.out] at hq
        simp only at hq
        subst hq
        have l1 := (hnd.kept (kept_below hI.bel) hlt2).ld
        have l1d : (Ld 25 (.pointer (some ⟨bb, oo + i * 5, none⟩))).run Tryz.prog wr.drew = .ok (.agg (ncs x)) wr.drew := NdAt.ld (w := wr.drew) (hnd.kept (kept_below hI.bel) hlt2)
        have hbt := HBD.out t (List.mem_of_getElem? ht)
        have hot := HOK.out t (List.mem_of_getElem? ht)
        have cc := HIH.out t x wr true false hbt (rx.below hI.bel) hot
        have ccd := HIH.out t x wr.drew true false hbt (rx.below hI.bel.drew) hot
        have he := hE.out
        rw [wrongL_step ht] at he
        have HI := Lib.hid hI
        have hw : wrap64 ((i : Int) + 1) = i + 1 := by unfold wrap64; have := HM.out; have := HML.out; omega
        have HW := Lib.hid hw
        have HLT := Lib.hid hlt
        obtain ⟨q, hr⟩ : ∃ q, wrongT true false t = q := ⟨_, rfl⟩
        rw [hr] at cc ccd he
        clear hx rx ht hnd hr hlt2 hE hbt hot
        cases q with
        | true =>
          have HE := Lib.hid he
          clear hI he
          go_wp2_with (go_at_call 18; first | ((with_reducible refine cc.mono ?_); intro e w2 hp; obtain ⟨rfl, hb⟩ := hp; have HI2 := Lib.hid (HI.out.call hb); clear hb) | ((with_reducible refine ccd.mono ?_); intro e w2 hp; obtain ⟨rfl, hb⟩ := hp; have HI2 := Lib.hid (HI.out.call ((Below.refl _ _).drew.trans hb)); clear hb))
          go_ret
          exact ⟨by rw [HE.out]; rfl, HI2.out.bel⟩
        | false =>
          rw [Bool.false_or] at he
          have HE := Lib.hid he
          clear hI he
          go_wp2_with (go_at_call 18; first | ((with_reducible refine cc.mono ?_); intro e w2 hp; obtain ⟨rfl, hb⟩ := hp; have HI2 := Lib.hid (HI.out.call hb); clear hb) | ((with_reducible refine ccd.mono ?_); intro e w2 hp; obtain ⟨rfl, hb⟩ := hp; have HI2 := Lib.hid (HI.out.call ((Below.refl _ _).drew.trans hb)); clear hb))
          go_roundw
          case rel => exact ⟨i + 1, by first | rfl | congr 1 | go_num, HLT.out, HI2.out, HE⟩
          case measure => exact meas_w HW.out HLT.out
      · have he := hE.out
        rw [List.drop_eq_nil_of_le (by have := HM.out; omega)] at he
        have he2 : R = false := by rw [he]; rfl
        have hii2 : decide ((m : Int) ≤ (i : Int)) = true := by simp; omega
        have hii3 : ¬ (i : Int) < (m : Int) := by omega
        have HE := Lib.hid he2
        have HI := Lib.hid hI
        clear hI he he2 hE
        go_wp2
        go_ret
        exact ⟨by rw [HE.out]; rfl, HI.out.bel⟩
set_option maxRecDepth 100000 in
set_option maxHeartbeats 4000000 in
theorem wrong_if {K d : Nat} (hK : K ≤ 100000) (IH : WrC K d) {n : Int} {tx : ByteArray} {ns : List ByteArray} {ks : List Tree} {N : Nd} {w : World} (f l : Bool) {k : Int} (hd : Bd K (d + 1) (.mk k n tx ns ks)) (hr : Rd w (.mk k n tx ns ks) N) (hp : ∃ p, okT p (.mk k n tx ns ks) = true) (hk : k = 34) : Calls Tryz.prog 18 #[.agg (ncs N), .bool f, .bool l] w (PostR w (.bool (wrongT f l (.mk k n tx ns ks)))) := by
  obtain ⟨bN, n0, n1, n2, n3, n4, HB, e1, e2, e3, e4, e5⟩ := nd_start hr
  rw [e1] at n0
  have hp2 := hp
  clear hp
  have HIH := Lib.hid IH
  unfold Bd at hd
  have hF1 : Fun1 ks := by obtain ⟨p, hp⟩ := hp2; exact right_fun1 hp
  have hok : ∀ t ∈ ks, ∃ p, okT p t = true := by obtain ⟨p, hp⟩ := hp2; exact okKs_at (okT_parts hp).2
  unfold Pr.Rd at hr
  obtain ⟨-, -, -, htx, xs, hl, hr⟩ := hr
  obtain ⟨m, hm⟩ : ∃ m, ks.length = m := ⟨_, rfl⟩
  obtain ⟨m2, hm2⟩ : ∃ m2, ns.length = m2 := ⟨_, rfl⟩
  obtain ⟨a4, c4, hk4⟩ : ∃ a c, N.kids = ⟨a, m, c⟩ := ⟨_, _, by rw [← hm, ← e5]⟩
  obtain ⟨a3, c3, hk3⟩ : ∃ a c, N.names = ⟨a, m2, c⟩ := ⟨_, _, by rw [← hm2, ← e4]⟩
  rw [hk4] at n4
  rw [hk3] at n3
  simp only at n3 n4
  have hml : m ≤ 100000 := by have := hd.1; omega
  have hnl : ns.length ≤ 100000 := by have := hd.2.1; omega
  have HBD := Lib.hid hd.2.2
  have HBN := Lib.hid bN
  have HL := Lib.hid hl
  have HR := Lib.hid hr
  have HM := Lib.hid hm
  have HKK := Lib.hid hk4
  have HK3 := Lib.hid hk3
  have HF1 := Lib.hid hF1
  have HOK := Lib.hid hok
  have HML := Lib.hid hml
  have HNL := Lib.hid hnl
  have HTX := Lib.hid htx
  have HBI : Hid (BI w (w.alloc (.cells (ncs N) 25)) N) := Lib.hid ⟨HB.out, bN⟩
  clear hd hl hr hm hm2 hk4 hk3 hF1 hok hml hnl htx IH e1 e2 e3 e4 e5 bN n1 n2
  subst hk
  have hm1 : 1 ≤ m := by
    have := HM.out
    obtain ⟨p, hp⟩ := hp2
    have h2 := (okT_parts hp).2
    rw [pl_if] at h2
    cases ks with
    | nil => simp only [List.length_nil] at h2; rw [if_pos (by omega)] at h2; simp [okKs] at h2
    | cons a r => rw [← this, List.length_cons]; omega
  have HM1 := Lib.hid hm1
  clear hp2 hm1
  obtain ⟨D, hD⟩ : ∃ D, declL (ks.drop 1) = D := ⟨_, rfl⟩
  have eW : wrongT f l (.mk 34 n tx ns ks) = (D || wrongL f l ks) := by unfold wrongT; rw [← hD]; show (match (if declL (ks.drop 1) then some true else none) with | some b => b | none => _) = _; cases declL (ks.drop 1) <;> rfl
  rw [eW]
  clear eW
  obtain ⟨R, hR⟩ : ∃ R, wrongL f l ks = R := ⟨_, rfl⟩
  rw [hR]
  have HRR := Lib.hid hR
  have HD0 : Hid (D = declL (ks.drop 1)) := Lib.hid hD.symm
  clear hD hR
  go_enter Tryz.func18, Tryz.ntmps18
  go_wp2
  go_loopw [7] (fun u wr => ∃ (i : Nat), u = .int .i64 (i : Int) ∧ i ≤ m ∧ BI w wr N ∧ Hid (D = declL (ks.drop i))) (fun u _ => m - (intOf u).toNat)
  case atStart => exact ⟨1, rfl, HM1.out, HBI.out, HD0⟩
  case round =>
    obtain ⟨i, rfl, hle, hI, hE⟩ := hrel
    have m4 := (hI.box.cell 4).trans (ncs_4 N)
    rw [HKK.out] at m4
    simp only at m4
    have m4d : wr.drew.cell? ⟨w.heap.size, 4, none⟩ = some (.slice a4 m c4) := m4
    by_cases hlt : i < m
    · have hii : (i : Int) < (m : Int) := by omega
      have hii2 : decide ((m : Int) ≤ (i : Int)) = false := by simp; omega
      obtain ⟨t, ht⟩ : ∃ t, ks[i]? = some t := ⟨_, List.getElem?_eq_getElem (by have := HM.out; omega)⟩
      obtain ⟨x, hx, rx⟩ := HR.out.at ht
      obtain ⟨bb, oo, hq, hlt2, hnd⟩ := HL.out.2.2.2 i x hx
      rw [HKK.out] at hq
      simp only at hq
      subst hq
      have l1 := (hnd.kept (kept_below hI.bel) hlt2).ld
      have l1d : (Ld 25 (.pointer (some ⟨bb, oo + i * 5, none⟩))).run Tryz.prog wr.drew = .ok (.agg (ncs x)) wr.drew := NdAt.ld (w := wr.drew) (hnd.kept (kept_below hI.bel) hlt2)
      have cc := declares_any (rx.below hI.bel)
      have ccd := declares_any (rx.below hI.bel.drew)
      have he := hE.out
      rw [declL_step ht] at he
      have HI := Lib.hid hI
      have hw : wrap64 ((i : Int) + 1) = i + 1 := by unfold wrap64; have := HM.out; have := HML.out; omega
      have HW := Lib.hid hw
      have HLT := Lib.hid hlt
      obtain ⟨q, hr⟩ : ∃ q, declB t.kind = q := ⟨_, rfl⟩
      rw [hr] at cc ccd he
      clear hx rx ht hnd hr hlt2 hE
      cases q with
      | true =>
        have HE := Lib.hid he
        clear hI he
        go_wp2_with (go_at_call 32; first | ((with_reducible refine cc.mono ?_); intro e w2 hp; obtain ⟨rfl, hb⟩ := hp; have HI2 := Lib.hid (HI.out.call hb); clear hb) | ((with_reducible refine ccd.mono ?_); intro e w2 hp; obtain ⟨rfl, hb⟩ := hp; have HI2 := Lib.hid (HI.out.call ((Below.refl _ _).drew.trans hb)); clear hb))
        go_ret
        exact ⟨by rw [HE.out]; rfl, HI2.out.bel⟩
      | false =>
        rw [Bool.false_or] at he
        have HE := Lib.hid he
        clear hI he
        go_wp2_with (go_at_call 32; first | ((with_reducible refine cc.mono ?_); intro e w2 hp; obtain ⟨rfl, hb⟩ := hp; have HI2 := Lib.hid (HI.out.call hb); clear hb) | ((with_reducible refine ccd.mono ?_); intro e w2 hp; obtain ⟨rfl, hb⟩ := hp; have HI2 := Lib.hid (HI.out.call ((Below.refl _ _).drew.trans hb)); clear hb))
        go_roundw
        case rel => exact ⟨i + 1, by first | rfl | congr 1 | go_num, HLT.out, HI2.out, HE⟩
        case measure => exact meas_w HW.out HLT.out
    · have he := hE.out
      rw [List.drop_eq_nil_of_le (by have := HM.out; omega)] at he
      have he2 : D = false := by rw [he]; rfl
      have hii2 : decide ((m : Int) ≤ (i : Int)) = true := by simp; omega
      have hii3 : ¬ (i : Int) < (m : Int) := by omega
      subst he2
      obtain ⟨wq, hwq⟩ : ∃ u, u = wr := ⟨_, rfl⟩
      subst hwq
      have HBI := Lib.hid hI
      clear hI he hE hle hlt HD0
      have hR := HRR.out
      clear HRR
      go_wp2
      have HR0 : Hid (R = wrongL f l (ks.drop 0)) := Lib.hid hR.symm
      clear hR
      go_loopw [8] (fun u wr => ∃ (i : Nat), u = .int .i64 (i : Int) ∧ i ≤ m ∧ BI w wr N ∧ Hid (R = wrongL f l (ks.drop i))) (fun u _ => m - (intOf u).toNat)
      case atStart => exact ⟨0, rfl, Nat.zero_le _, HBI.out, HR0⟩
      case round =>
        obtain ⟨i, rfl, hle, hI, hE⟩ := hrel
        have m4 := (hI.box.cell 4).trans (ncs_4 N)
        rw [HKK.out] at m4
        simp only at m4
        have m4d : wr.drew.cell? ⟨w.heap.size, 4, none⟩ = some (.slice a4 m c4) := m4
        by_cases hlt : i < m
        · have hii : (i : Int) < (m : Int) := by omega
          have hii2 : decide ((m : Int) ≤ (i : Int)) = false := by simp; omega
          obtain ⟨t, ht⟩ : ∃ t, ks[i]? = some t := ⟨_, List.getElem?_eq_getElem (by have := HM.out; omega)⟩
          obtain ⟨x, hx, rx⟩ := HR.out.at ht
          obtain ⟨bb, oo, hq, hlt2, hnd⟩ := HL.out.2.2.2 i x hx
          rw [HKK.out] at hq
          simp only at hq
          subst hq
          have l1 := (hnd.kept (kept_below hI.bel) hlt2).ld
          have l1d : (Ld 25 (.pointer (some ⟨bb, oo + i * 5, none⟩))).run Tryz.prog wr.drew = .ok (.agg (ncs x)) wr.drew := NdAt.ld (w := wr.drew) (hnd.kept (kept_below hI.bel) hlt2)
          have hbt := HBD.out t (List.mem_of_getElem? ht)
          have hot := HOK.out t (List.mem_of_getElem? ht)
          have cc := HIH.out t x wr f l hbt (rx.below hI.bel) hot
          have ccd := HIH.out t x wr.drew f l hbt (rx.below hI.bel.drew) hot
          have he := hE.out
          rw [wrongL_step ht] at he
          have HI := Lib.hid hI
          have hw : wrap64 ((i : Int) + 1) = i + 1 := by unfold wrap64; have := HM.out; have := HML.out; omega
          have HW := Lib.hid hw
          have HLT := Lib.hid hlt
          obtain ⟨q, hr⟩ : ∃ q, wrongT f l t = q := ⟨_, rfl⟩
          rw [hr] at cc ccd he
          clear hx rx ht hnd hr hlt2 hE hbt hot
          cases q with
          | true =>
            have HE := Lib.hid he
            clear hI he
            go_wp2_with (go_at_call 18; first | ((with_reducible refine cc.mono ?_); intro e w2 hp; obtain ⟨rfl, hb⟩ := hp; have HI2 := Lib.hid (HI.out.call hb); clear hb) | ((with_reducible refine ccd.mono ?_); intro e w2 hp; obtain ⟨rfl, hb⟩ := hp; have HI2 := Lib.hid (HI.out.call ((Below.refl _ _).drew.trans hb)); clear hb))
            go_ret
            exact ⟨by rw [HE.out]; rfl, HI2.out.bel⟩
          | false =>
            rw [Bool.false_or] at he
            have HE := Lib.hid he
            clear hI he
            go_wp2_with (go_at_call 18; first | ((with_reducible refine cc.mono ?_); intro e w2 hp; obtain ⟨rfl, hb⟩ := hp; have HI2 := Lib.hid (HI.out.call hb); clear hb) | ((with_reducible refine ccd.mono ?_); intro e w2 hp; obtain ⟨rfl, hb⟩ := hp; have HI2 := Lib.hid (HI.out.call ((Below.refl _ _).drew.trans hb)); clear hb))
            go_roundw
            case rel => exact ⟨i + 1, by first | rfl | congr 1 | go_num, HLT.out, HI2.out, HE⟩
            case measure => exact meas_w HW.out HLT.out
        · have he := hE.out
          rw [List.drop_eq_nil_of_le (by have := HM.out; omega)] at he
          have he2 : R = false := by rw [he]; rfl
          have hii2 : decide ((m : Int) ≤ (i : Int)) = true := by simp; omega
          have hii3 : ¬ (i : Int) < (m : Int) := by omega
          have HE := Lib.hid he2
          have HI := Lib.hid hI
          clear hI he he2 hE
          go_wp2
          go_ret
          exact ⟨by rw [HE.out]; rfl, HI.out.bel⟩
set_option maxRecDepth 100000 in
set_option maxHeartbeats 4000000 in
theorem wrong_while {K d : Nat} (hK : K ≤ 100000) (IH : WrC K d) {n : Int} {tx : ByteArray} {ns : List ByteArray} {ks : List Tree} {N : Nd} {w : World} (f l : Bool) {k : Int} (hd : Bd K (d + 1) (.mk k n tx ns ks)) (hr : Rd w (.mk k n tx ns ks) N) (hp : ∃ p, okT p (.mk k n tx ns ks) = true) (hk : k = 35) : Calls Tryz.prog 18 #[.agg (ncs N), .bool f, .bool l] w (PostR w (.bool (wrongT f l (.mk k n tx ns ks)))) := by
  obtain ⟨bN, n0, n1, n2, n3, n4, HB, e1, e2, e3, e4, e5⟩ := nd_start hr
  rw [e1] at n0
  have hp2 := hp
  clear hp
  have HIH := Lib.hid IH
  unfold Bd at hd
  have hF1 : Fun1 ks := by obtain ⟨p, hp⟩ := hp2; exact right_fun1 hp
  have hok : ∀ t ∈ ks, ∃ p, okT p t = true := by obtain ⟨p, hp⟩ := hp2; exact okKs_at (okT_parts hp).2
  unfold Pr.Rd at hr
  obtain ⟨-, -, -, htx, xs, hl, hr⟩ := hr
  obtain ⟨m, hm⟩ : ∃ m, ks.length = m := ⟨_, rfl⟩
  obtain ⟨m2, hm2⟩ : ∃ m2, ns.length = m2 := ⟨_, rfl⟩
  obtain ⟨a4, c4, hk4⟩ : ∃ a c, N.kids = ⟨a, m, c⟩ := ⟨_, _, by rw [← hm, ← e5]⟩
  obtain ⟨a3, c3, hk3⟩ : ∃ a c, N.names = ⟨a, m2, c⟩ := ⟨_, _, by rw [← hm2, ← e4]⟩
  rw [hk4] at n4
  rw [hk3] at n3
  simp only at n3 n4
  have hml : m ≤ 100000 := by have := hd.1; omega
  have hnl : ns.length ≤ 100000 := by have := hd.2.1; omega
  have HBD := Lib.hid hd.2.2
  have HBN := Lib.hid bN
  have HL := Lib.hid hl
  have HR := Lib.hid hr
  have HM := Lib.hid hm
  have HKK := Lib.hid hk4
  have HK3 := Lib.hid hk3
  have HF1 := Lib.hid hF1
  have HOK := Lib.hid hok
  have HML := Lib.hid hml
  have HNL := Lib.hid hnl
  have HTX := Lib.hid htx
  have HBI : Hid (BI w (w.alloc (.cells (ncs N) 25)) N) := Lib.hid ⟨HB.out, bN⟩
  clear hd hl hr hm hm2 hk4 hk3 hF1 hok hml hnl htx IH e1 e2 e3 e4 e5 bN n1 n2
  subst hk
  have hm1 : m = 2 ∧ ∃ c s, ks = [c, s] := by
    have := HM.out
    obtain ⟨p, hp⟩ := hp2
    have h2 := (okT_parts hp).2
    rw [pl_while] at h2
    obtain ⟨c, r, rfl, hc, hr⟩ := okKs_cons h2
    obtain ⟨s, r2, rfl, hs, hr2⟩ := okKs_cons hr
    obtain rfl := okKs_nil hr2
    exact ⟨this.symm, c, s, rfl⟩
  obtain ⟨hm1, c, s, rfl⟩ := hm1
  obtain ⟨x, hx, rx⟩ := HR.out.at (i := 1) (t := s) rfl
  obtain ⟨b0, o0, hq, hlt2, hnd⟩ := HL.out.2.2.2 1 x hx
  rw [HKK.out] at hq
  simp only at hq
  subst hq
  obtain ⟨D, hD⟩ : ∃ D, declB s.kind = D := ⟨_, rfl⟩
  have eW : wrongT f l (.mk 35 n tx ns [c, s]) = (D || wrongL f true [c, s]) := by unfold wrongT; rw [← hD]; show (match (if declL [s] then some true else none) with | some b => b | none => _) = _; unfold declL; rw [List.any_cons, List.any_nil, Bool.or_false]; cases declB s.kind <;> rfl
  rw [eW]
  clear eW
  have hii : (1 : Int) < (m : Int) := by omega
  have hii2 : decide ((m : Int) ≤ 1) = false := by simp; omega
  have l1 := (hnd.kept (kept_below HBI.out.bel) hlt2).ld
  rw [Nat.one_mul] at l1
  have cc := declares_any (rx.below HBI.out.bel)
  rw [hD] at cc
  clear hp2 hm1 hx rx hlt2 hnd hD
  cases D with
  | true =>
    go_enter Tryz.func18, Tryz.ntmps18
    go_wp2_with (go_at_call 32; (with_reducible refine cc.mono ?_); intro e w2 hp; obtain ⟨rfl, hb⟩ := hp; have HBI2 := Lib.hid (HBI.out.call hb); clear hb)
    go_ret
    exact ⟨rfl, HBI2.out.bel⟩
  | false =>
    rw [Bool.false_or]
    obtain ⟨ks, hks⟩ : ∃ ks, [c, s] = ks := ⟨_, rfl⟩
    rw [hks] at HF1 HOK HR HM HBD ⊢
    clear hks
    obtain ⟨R, hR⟩ : ∃ R, wrongL f true ks = R := ⟨_, rfl⟩
    rw [hR]
    go_enter Tryz.func18, Tryz.ntmps18
    go_wp2_with (go_at_call 32; (with_reducible refine cc.mono ?_); intro e w2 hp; obtain ⟨rfl, hb⟩ := hp; have HBI2 := Lib.hid (HBI.out.call hb); clear hb HBI)
    have HBI := HBI2
    have HR0 : Hid (R = wrongL f true (ks.drop 0)) := Lib.hid hR.symm
    clear hR
    go_loopw [8] (fun u wr => ∃ (i : Nat), u = .int .i64 (i : Int) ∧ i ≤ m ∧ BI w wr N ∧ Hid (R = wrongL f true (ks.drop i))) (fun u _ => m - (intOf u).toNat)
    case atStart => exact ⟨0, rfl, Nat.zero_le _, HBI.out, HR0⟩
    case round =>
      obtain ⟨i, rfl, hle, hI, hE⟩ := hrel
      have m4 := (hI.box.cell 4).trans (ncs_4 N)
      rw [HKK.out] at m4
      simp only at m4
      have m4d : wr.drew.cell? ⟨w.heap.size, 4, none⟩ = some (.slice (some ⟨b0, o0, none⟩) m c4) := m4
      by_cases hlt : i < m
      · have hii : (i : Int) < (m : Int) := by omega
        have hii2 : decide ((m : Int) ≤ (i : Int)) = false := by simp; omega
        obtain ⟨t, ht⟩ : ∃ t, ks[i]? = some t := ⟨_, List.getElem?_eq_getElem (by have := HM.out; omega)⟩
        obtain ⟨x, hx, rx⟩ := HR.out.at ht
        obtain ⟨bb, oo, hq, hlt2, hnd⟩ := HL.out.2.2.2 i x hx
        rw [HKK.out] at hq
        simp only at hq
        cases hq
        have l1 := (hnd.kept (kept_below hI.bel) hlt2).ld
        have l1d : (Ld 25 (.pointer (some ⟨b0, o0 + i * 5, none⟩))).run Tryz.prog wr.drew = .ok (.agg (ncs x)) wr.drew := NdAt.ld (w := wr.drew) (hnd.kept (kept_below hI.bel) hlt2)
        have hbt := HBD.out t (List.mem_of_getElem? ht)
        have hot := HOK.out t (List.mem_of_getElem? ht)
        have cc := HIH.out t x wr f true hbt (rx.below hI.bel) hot
        have ccd := HIH.out t x wr.drew f true hbt (rx.below hI.bel.drew) hot
        have he := hE.out
        rw [wrongL_step ht] at he
        have HI := Lib.hid hI
        have hw : wrap64 ((i : Int) + 1) = i + 1 := by unfold wrap64; have := HM.out; have := HML.out; omega
        have HW := Lib.hid hw
        have HLT := Lib.hid hlt
        obtain ⟨q, hr⟩ : ∃ q, wrongT f true t = q := ⟨_, rfl⟩
        rw [hr] at cc ccd he
        clear hx rx ht hnd hr hlt2 hE hbt hot
        cases q with
        | true =>
          have HE := Lib.hid he
          clear hI he
          go_wp2_with (go_at_call 18; first | ((with_reducible refine cc.mono ?_); intro e w2 hp; obtain ⟨rfl, hb⟩ := hp; have HI2 := Lib.hid (HI.out.call hb); clear hb) | ((with_reducible refine ccd.mono ?_); intro e w2 hp; obtain ⟨rfl, hb⟩ := hp; have HI2 := Lib.hid (HI.out.call ((Below.refl _ _).drew.trans hb)); clear hb))
          go_ret
          exact ⟨by rw [HE.out]; rfl, HI2.out.bel⟩
        | false =>
          rw [Bool.false_or] at he
          have HE := Lib.hid he
          clear hI he
          go_wp2_with (go_at_call 18; first | ((with_reducible refine cc.mono ?_); intro e w2 hp; obtain ⟨rfl, hb⟩ := hp; have HI2 := Lib.hid (HI.out.call hb); clear hb) | ((with_reducible refine ccd.mono ?_); intro e w2 hp; obtain ⟨rfl, hb⟩ := hp; have HI2 := Lib.hid (HI.out.call ((Below.refl _ _).drew.trans hb)); clear hb))
          go_roundw
          case rel => exact ⟨i + 1, by first | rfl | congr 1 | go_num, HLT.out, HI2.out, HE⟩
          case measure => exact meas_w HW.out HLT.out
      · have he := hE.out
        rw [List.drop_eq_nil_of_le (by have := HM.out; omega)] at he
        have he2 : R = false := by rw [he]; rfl
        have hii2 : decide ((m : Int) ≤ (i : Int)) = true := by simp; omega
        have hii3 : ¬ (i : Int) < (m : Int) := by omega
        have HE := Lib.hid he2
        have HI := Lib.hid hI
        clear hI he he2 hE
        go_wp2
        go_ret
        exact ⟨by rw [HE.out]; rfl, HI.out.bel⟩
theorem wrong_any {K : Nat} (hK : K ≤ 100000) : ∀ d : Nat, WrC K d
  | 0, t, N, w, f, l, hd, _, _ => by unfold Bd at hd; exact hd.elim
  | d + 1, .mk k n tx ns ks, N, w, f, l, hd, hr, hp => by
    have IH := wrong_any hK d
    by_cases h1 : k = 36
    · exact wrong_ret hK IH f l hd hr hp h1
    by_cases h2 : k = 41 ∨ k = 42
    · exact wrong_jump hK IH f l hd hr hp h2
    by_cases h3 : k = 40 ∨ k = 44
    · exact wrong_scope hK IH f l hd hr hp h3
    by_cases h4 : k = 14
    · exact wrong_fun hK IH f l hd hr hp h4
    by_cases h5 : k = 34
    · exact wrong_if hK IH f l hd hr hp h5
    by_cases h6 : k = 35
    · exact wrong_while hK IH f l hd hr hp h6
    exact wrong_else hK IH f l hd hr hp (by omega)
set_option maxRecDepth 100000 in
set_option maxHeartbeats 4000000 in
theorem rearly_any {t : Tree} {N : Nd} {w : World} {K d : Nat} (hr : Rd w t N) (hs : Str t) (hb : Bd K d t) (hK : K ≤ 100000) : Calls Tryz.prog 11 #[.agg (ncs N)] w (PostR w (.int .i64 (earlyN t))) := by
  obtain ⟨wB, hwB⟩ : ∃ wB, w.alloc (.cells (ncs N) 25) = wB := ⟨_, rfl⟩
  have hbw : Below w.heap.size w wB := by rw [← hwB]; exact bel1
  have hsz : wB.heap.size = w.heap.size + 1 := by rw [← hwB]; simp
  have hn := Blk.new w (ncs N) 25
  rw [hwB] at hn
  have hT : TAt wB w.heap.size 0 t N := by
    refine ⟨⟨by omega, fun j v hv => ?_⟩, hr.below hbw⟩
    rw [Nat.zero_add, hn.cell j]
    simpa using hv
  have hld : (Ld 25 (.pointer (some ⟨w.heap.size, 0, none⟩))).run Tryz.prog wB = .ok (.agg (ncs N)) wB := hT.k.ld (Below.refl _ _)
  have hc := right_any (hr.below hbw) hs
  have HBW := Lib.hid hbw
  have HT := Lib.hid hT
  have HSZ := Lib.hid hsz
  have HWB := Lib.hid hwB
  rw [← hwB] at hld hc
  unfold earlyN
  by_cases h : okT 80 t = true
  · rw [h] at hc
    rw [if_pos h]
    have HW : Hid (∀ W : World, Below wB.heap.size wB W → Calls Tryz.prog 18 #[.agg (ncs N), .bool false, .bool false] W (PostR W (.bool (wrongT false false t)))) := Lib.hid fun W hb2 => wrong_any hK d t N W false false hb (hr.below (hbw.trans (hb2.mono (by omega)))) ⟨80, h⟩
    clear hb hr hs hK h hbw hT hsz hn hwB
    obtain ⟨q, hq⟩ : ∃ q, wrongT false false t = q := ⟨_, rfl⟩
    rw [hq] at HW ⊢
    clear hq
    cases q with
    | true =>
      go_enter Tryz.func11, Tryz.ntmps11
      go_wp2_with (first | (go_at_call 17; (with_reducible refine hc.mono ?_); intro e w2 hp; obtain ⟨rfl, hb⟩ := hp; rw [HWB.out] at hb; have HB2 := Lib.hid hb; have l2 := HT.out.k.ld hb; clear hb hld) | (go_at_call 18; (with_reducible refine (HW.out _ HB2.out).mono ?_); intro e w3 hp; obtain ⟨rfl, hb⟩ := hp; have HB3 := Lib.hid (HB2.out.trans (hb.mono HB2.out.size)); clear hb))
      go_ret
      exact ⟨rfl, HBW.out.trans (HB3.out.mono (by have := HSZ.out; omega))⟩
    | false =>
      go_enter Tryz.func11, Tryz.ntmps11
      go_wp2_with (first | (go_at_call 17; (with_reducible refine hc.mono ?_); intro e w2 hp; obtain ⟨rfl, hb⟩ := hp; rw [HWB.out] at hb; have HB2 := Lib.hid hb; have l2 := HT.out.k.ld hb; clear hb hld) | (go_at_call 18; (with_reducible refine (HW.out _ HB2.out).mono ?_); intro e w3 hp; obtain ⟨rfl, hb⟩ := hp; have HB3 := Lib.hid (HB2.out.trans (hb.mono HB2.out.size)); clear hb))
      go_ret
      exact ⟨rfl, HBW.out.trans (HB3.out.mono (by have := HSZ.out; omega))⟩
  · have h2 : okT 80 t = false := by simpa using h
    rw [h2] at hc
    rw [if_neg h]
    clear hb hr hs hK h h2 hbw hT hsz hn hwB
    go_enter Tryz.func11, Tryz.ntmps11
    go_wp2_with (go_at_call 17; (with_reducible refine hc.mono ?_); intro e w2 hp; obtain ⟨rfl, hb⟩ := hp; rw [HWB.out] at hb; have HB2 := Lib.hid hb; clear hb)
    go_ret
    exact ⟨rfl, HBW.out.trans (HB2.out.mono (by have := HSZ.out; omega))⟩
end Go.Proofs.YtinoaajohkafmaaGreat.Ey
