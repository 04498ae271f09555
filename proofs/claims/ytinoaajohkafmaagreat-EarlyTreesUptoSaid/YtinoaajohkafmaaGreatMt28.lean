/-
  The reference's Right: at every tree in memory whose texts are of at most 2^20 bytes.
-/
import Derived.Test.YtinoaajohkafmaaGreatMt23
import Derived.Test.YtinoaajohkafmaaGreatMt24
import Derived.Test.YtinoaajohkafmaaGreatMt25
import Derived.Test.YtinoaajohkafmaaGreatMt26
import Derived.Test.YtinoaajohkafmaaGreatMt27
namespace Go.Proofs.YtinoaajohkafmaaGreat.Pr
open Go Go.RowKit Go.Proofs.YtinoaajohkafmaaGreat.Pa Go.Proofs.YtinoaajohkafmaaGreat.Uni
open Go.Proofs.YtinoaajohkafmaaGreat.Lx
set_option linter.unusedVariables false
set_option linter.unusedSimpArgs false
attribute [local go_sem ↓] ldK stK alK bdK bsK ldN stN alN bdN bsN bs_un3 bs_bin12
attribute [local irreducible] kcs ncs ncells un3_cs bin12_cs
attribute [local go_sem] run_alN run_stNg run_ldNg run_bdN0 run_un3 run_bin12
set_option maxRecDepth 100000 in
set_option maxHeartbeats 4000000 in
theorem rex_else {k n : Int} {tx : ByteArray} {ns : List ByteArray} {ks : List Tree} (hk : ¬ (1 ≤ k ∧ k ≤ 24 ∧ k ≠ 11 ∧ k ≠ 12 ∧ k ≠ 13)) {N : Nd} {w : World} (hr : Rd w (.mk k n tx ns ks) N) : Calls Tryz.prog 71 #[.agg (ncs N)] w (PostR w (.bool (okT 65 (.mk k n tx ns ks)))) := by
  obtain ⟨bN, n0, n1, n2, n3, n4, HB, e1, e2, e3, e4, e5⟩ := nd_start hr
  rw [e1] at n0
  have hno : okT 65 (.mk k n tx ns ks) = false := by
    have : kindB 65 k = false := by unfold kindB; simp; omega
    unfold okT hereB
    rw [this]; simp
  rw [hno]
  have f1 : (k == 1) = false := by simp; omega
  have f2 : (k == 2) = false := by simp; omega
  have f3 : (k == 3) = false := by simp; omega
  have f4 : (k == 4) = false := by simp; omega
  have f5 : (k == 5) = false := by simp; omega
  have f6 : (k == 6) = false := by simp; omega
  have f7 : (k == 7) = false := by simp; omega
  have f8 : (k == 8) = false := by simp; omega
  have f9 : (k == 9) = false := by simp; omega
  have f10 : (k == 10) = false := by simp; omega
  have f14 : (k == 14) = false := by simp; omega
  have f15 : (k == 15) = false := by simp; omega
  have f16 : (k == 16) = false := by simp; omega
  have f17 : (k == 17) = false := by simp; omega
  have f18 : (k == 18) = false := by simp; omega
  have f19 : (k == 19) = false := by simp; omega
  have f20 : (k == 20) = false := by simp; omega
  have f21 : (k == 21) = false := by simp; omega
  have f22 : (k == 22) = false := by simp; omega
  have f23 : (k == 23) = false := by simp; omega
  have f24 : (k == 24) = false := by simp; omega
  clear hk hr e1 e2 e3 e4 e5 hno bN
  go_enter Tryz.func71, Tryz.ntmps71
  go_wp2
  go_ret
  exact ⟨rfl, HB.out⟩
set_option maxRecDepth 100000 in
set_option maxHeartbeats 4000000 in
theorem rst_else {k n : Int} {tx : ByteArray} {ns : List ByteArray} {ks : List Tree} (hk : ¬ (30 ≤ k ∧ k ≤ 43 ∧ k ≠ 39)) {N : Nd} {w : World} (hr : Rd w (.mk k n tx ns ks) N) : Calls Tryz.prog 52 #[.agg (ncs N)] w (PostR w (.bool (okT 83 (.mk k n tx ns ks)))) := by
  obtain ⟨bN, n0, n1, n2, n3, n4, HB, e1, e2, e3, e4, e5⟩ := nd_start hr
  rw [e1] at n0
  have hno : okT 83 (.mk k n tx ns ks) = false := by
    have : kindB 83 k = false := by unfold kindB; simp; omega
    unfold okT hereB
    rw [this]; simp
  rw [hno]
  have f30 : (k == 30) = false := by simp; omega
  have f31 : (k == 31) = false := by simp; omega
  have f32 : (k == 32) = false := by simp; omega
  have f33 : (k == 33) = false := by simp; omega
  have f34 : (k == 34) = false := by simp; omega
  have f35 : (k == 35) = false := by simp; omega
  have f36 : (k == 36) = false := by simp; omega
  have f37 : (k == 37) = false := by simp; omega
  have f38 : (k == 38) = false := by simp; omega
  have f40 : (k == 40) = false := by simp; omega
  have f41 : (k == 41) = false := by simp; omega
  have f42 : (k == 42) = false := by simp; omega
  have f43 : (k == 43) = false := by simp; omega
  clear hk hr e1 e2 e3 e4 e5 hno bN
  go_enter Tryz.func52, Tryz.ntmps52
  go_wp2
  go_ret
  exact ⟨rfl, HB.out⟩
set_option maxRecDepth 100000 in
set_option maxHeartbeats 4000000 in
theorem rpair_else {k n : Int} {tx : ByteArray} {ns : List ByteArray} {ks : List Tree} (hk : ¬ (k = 11 ∨ k = 12 ∨ k = 13)) {N : Nd} {w : World} (hr : Rd w (.mk k n tx ns ks) N) : Calls Tryz.prog 99 #[.agg (ncs N)] w (PostR w (.bool (okT 68 (.mk k n tx ns ks)))) := by
  obtain ⟨bN, n0, n1, n2, n3, n4, HB, e1, e2, e3, e4, e5⟩ := nd_start hr
  rw [e1] at n0
  have hno : okT 68 (.mk k n tx ns ks) = false := by
    have : kindB 68 k = false := by unfold kindB; simp; omega
    unfold okT hereB
    rw [this]; simp
  rw [hno]
  have f11 : (k == 11) = false := by simp; omega
  have f12 : (k == 12) = false := by simp; omega
  have f13 : (k == 13) = false := by simp; omega
  clear hk hr e1 e2 e3 e4 e5 hno bN
  go_enter Tryz.func99, Tryz.ntmps99
  go_wp2
  go_ret
  exact ⟨rfl, HB.out⟩
set_option maxRecDepth 100000 in
set_option maxHeartbeats 4000000 in
theorem rblk_else {k n : Int} {tx : ByteArray} {ns : List ByteArray} {ks : List Tree} (hk : k ≠ 40) {N : Nd} {w : World} (hr : Rd w (.mk k n tx ns ks) N) : Calls Tryz.prog 74 #[.agg (ncs N)] w (PostR w (.bool (okT 66 (.mk k n tx ns ks)))) := by
  obtain ⟨bN, n0, n1, n2, n3, n4, HB, e1, e2, e3, e4, e5⟩ := nd_start hr
  rw [e1] at n0
  have hno : okT 66 (.mk k n tx ns ks) = false := by
    have : kindB 66 k = false := by unfold kindB; simp; omega
    unfold okT hereB
    rw [this]; simp
  rw [hno]
  have f40 : (k == 40) = false := by simp; omega
  clear hk hr e1 e2 e3 e4 e5 hno bN
  go_enter Tryz.func74, Tryz.ntmps74
  go_wp2
  go_ret
  exact ⟨rfl, HB.out⟩
set_option maxRecDepth 100000 in
set_option maxHeartbeats 4000000 in
theorem rprog_else {k n : Int} {tx : ByteArray} {ns : List ByteArray} {ks : List Tree} (hk : k ≠ 44) {N : Nd} {w : World} (hr : Rd w (.mk k n tx ns ks) N) : Calls Tryz.prog 17 #[.agg (ncs N)] w (PostR w (.bool (okT 80 (.mk k n tx ns ks)))) := by
  obtain ⟨bN, n0, n1, n2, n3, n4, HB, e1, e2, e3, e4, e5⟩ := nd_start hr
  rw [e1] at n0
  have hno : okT 80 (.mk k n tx ns ks) = false := by
    have : kindB 80 k = false := by unfold kindB; simp; omega
    unfold okT hereB
    rw [this]; simp
  rw [hno]
  have f44 : (k == 44) = false := by simp; omega
  clear hk hr e1 e2 e3 e4 e5 hno bN
  go_enter Tryz.func17, Tryz.ntmps17
  go_wp2
  go_ret
  exact ⟨rfl, HB.out⟩
theorem stm_if {n : Int} {tx : ByteArray} {ns : List ByteArray} {ks : List Tree} (h : okT 83 (.mk 34 n tx ns ks) = true) : (∃ a b, ks = [a, b]) ∨ ∃ a b c, ks = [a, b, c] ∧ okT 83 c = true := by
  rcases ks with _ | ⟨a, _ | ⟨b, _ | ⟨c, _ | ⟨d, ks⟩⟩⟩⟩
  · rw [pure_rst_34s (by simp)] at h; simp at h
  · rw [pure_rst_34s (by simp)] at h; simp at h
  · exact .inl ⟨a, b, rfl⟩
  · right
    refine ⟨a, b, c, rfl, ?_⟩
    rw [pure_rst_34c] at h
    simp [allT] at h
    exact h.2.2.1.2
  · rw [pure_rst_34l (by simp)] at h; simp at h
theorem stm_while {n : Int} {tx : ByteArray} {ns : List ByteArray} {ks : List Tree} (h : okT 83 (.mk 35 n tx ns ks) = true) : ∃ a b, ks = [a, b] ∧ okT 83 b = true := by
  rcases ks with _ | ⟨a, _ | ⟨b, _ | ⟨c, ks⟩⟩⟩
  · rw [pure_rst_35n (by simp)] at h; simp at h
  · rw [pure_rst_35n (by simp)] at h; simp at h
  · rw [pure_rst_35] at h
    simp at h
    exact ⟨a, b, rfl, h.2.2⟩
  · rw [pure_rst_35n (by simp)] at h; simp at h
theorem open_no {k n : Int} {tx : ByteArray} {ns : List ByteArray} {ks : List Tree} (h : k ≠ 34) (h2 : k ≠ 35) : openT (.mk k n tx ns ks) = false := by
  rcases ks with _ | ⟨a, _ | ⟨b, _ | ⟨c, _ | ⟨d, ks⟩⟩⟩⟩ <;> simp [openT, h, h2]
theorem o_if2 {n : Int} {tx : ByteArray} {ns : List ByteArray} {a b : Tree} : openT (.mk 34 n tx ns [a, b]) = true := by rw [openT]; rfl
theorem o_if3 {n : Int} {tx : ByteArray} {ns : List ByteArray} {a b c : Tree} : openT (.mk 34 n tx ns [a, b, c]) = openT c := by rw [openT]; rfl
theorem o_while {n : Int} {tx : ByteArray} {ns : List ByteArray} {a b : Tree} : openT (.mk 35 n tx ns [a, b]) = openT b := by rw [openT]; rfl
set_option maxRecDepth 100000 in
set_option maxHeartbeats 4000000 in
theorem open_step {t : Tree} (IH : ∀ u ∈ t.kids, OpenC u) : OpenC t := by
  obtain ⟨k, n, tx, ns, ks⟩ := t
  intro N w hr hok
  replace IH : ∀ u ∈ ks, OpenC u := IH
  obtain ⟨bN, n0, n1, n2, n3, n4, HB, e1, e2, e3, e4, e5⟩ := nd_start hr
  rw [e1] at n0
  by_cases h34 : k = 34
  · subst h34
    rcases stm_if hok with ⟨a, b, rfl⟩ | ⟨a, b, c, rfl, hc⟩
    · rw [o_if2]
      have hm : N.kids.n = 2 := e5
      rw [hm] at n4
      clear hr IH hok e1 e2 e3 e4 e5 hm bN
      go_enter Tryz.func72, Tryz.ntmps72
      go_wp2
      go_ret
      exact ⟨rfl, HB.out⟩
    · rw [o_if3]
      obtain ⟨b0, o0, cp, xa, xb, xc, hkk, hc1, hc2, ka, ra, kb, rb, kc, rc⟩ := kids_3 hr
      rw [hkk] at n4
      simp only at n4
      have l3 := kc.ld HB.out
      have cc := IH c (by simp) (rc.below HB.out) hc
      clear hr IH hok e1 e2 e3 e4 e5 hkk hc ka ra kb rb kc rc bN
      go_enter Tryz.func72, Tryz.ntmps72
      go_wp2_with (go_at_call 72; (with_reducible refine cc.mono ?_); intro e w2 hp; obtain ⟨rfl, hb⟩ := hp; have HB := Lib.hid (HB.out.trans (hb.mono HB.out.size)); clear hb)
      go_ret
      exact ⟨rfl, HB.out⟩
  · by_cases h35 : k = 35
    · subst h35
      obtain ⟨a, b, rfl, hb2⟩ := stm_while hok
      rw [o_while]
      obtain ⟨b0, o0, cp, xa, xb, hkk, hc1, hc2, ka, ra, kb, rb⟩ := kids_2 hr
      rw [hkk] at n4
      simp only at n4
      have l3 := kb.ld HB.out
      have cc := IH b (by simp) (rb.below HB.out) hb2
      clear hr IH hok e1 e2 e3 e4 e5 hkk hb2 ka ra kb rb bN h34
      go_enter Tryz.func72, Tryz.ntmps72
      go_wp2_with (go_at_call 72; (with_reducible refine cc.mono ?_); intro e w2 hp; obtain ⟨rfl, hb⟩ := hp; have HB := Lib.hid (HB.out.trans (hb.mono HB.out.size)); clear hb)
      go_ret
      exact ⟨rfl, HB.out⟩
    · rw [open_no h34 h35]
      have f34 : (k == 34) = false := by simp; omega
      have f35 : (k == 35) = false := by simp; omega
      clear hr IH hok e1 e2 e3 e4 e5 bN h34 h35
      go_enter Tryz.func72, Tryz.ntmps72
      go_wp2
      go_ret
      exact ⟨rfl, HB.out⟩
structure AllC (t : Tree) : Prop where
  ex : ExpC t
  st : StmC t
  pr : PairC t
  fn : FunC t
  bl : BlkC t
  op : OpenC t
theorem func_step {t : Tree} (IH : ∀ u ∈ t.kids, AllC u) : FunC t := by
  obtain ⟨k, n, tx, ns, ks⟩ := t
  exact func_all (stmts_all fun u hu => (IH u hu).st)
theorem blk_step {t : Tree} (IH : ∀ u ∈ t.kids, AllC u) : BlkC t := by
  obtain ⟨k, n, tx, ns, ks⟩ := t
  intro N w hr hs
  by_cases h : k = 40
  · subst h
    exact rblk_40 (stmts_all fun u hu => (IH u hu).st) hr hs
  · exact rblk_else h hr
theorem pair_step {t : Tree} (IH : ∀ u ∈ t.kids, AllC u) : PairC t := by
  obtain ⟨k, n, tx, ns, ks⟩ := t
  replace IH : ∀ u ∈ ks, AllC u := IH
  intro N w hr hs
  by_cases h : k = 11
  · subst h
    exact rpair_11 (exps_all fun u hu => (IH u hu).ex) hr hs
  by_cases h2 : k = 12
  · subst h2
    rcases ks with _ | ⟨a, _ | ⟨b, ks⟩⟩
    · exact rpair_12n (by simp) hr hs
    · exact rpair_12 (IH a (by simp)).fn hr hs
    · exact rpair_12n (by simp) hr hs
  by_cases h3 : k = 13
  · subst h3
    rcases ks with _ | ⟨a, _ | ⟨b, ks⟩⟩
    · exact rpair_13n (by simp) hr hs
    · exact rpair_13 (IH a (by simp)).fn hr hs
    · exact rpair_13n (by simp) hr hs
  exact rpair_else (by omega) hr
theorem ex_step {t : Tree} (IH : ∀ u ∈ t.kids, AllC u) : ExpC t := by
  have hf : FunC t := func_step IH
  obtain ⟨k, n, tx, ns, ks⟩ := t
  replace IH : ∀ u ∈ ks, AllC u := IH
  have he : ExpsC ks := exps_all fun u hu => (IH u hu).ex
  intro N w hr hs
  by_cases hk : 1 ≤ k ∧ k ≤ 24 ∧ k ≠ 11 ∧ k ≠ 12 ∧ k ≠ 13
  · rcases (by omega : k = 1 ∨ k = 2 ∨ k = 3 ∨ k = 4 ∨ k = 5 ∨ k = 6 ∨ k = 7 ∨ k = 8 ∨ k = 9 ∨ k = 10 ∨ k = 14 ∨ k = 15 ∨ k = 16 ∨ k = 17 ∨ k = 18 ∨ k = 19 ∨ k = 20 ∨ k = 21 ∨ k = 22 ∨ k = 23 ∨ k = 24) with rfl | rfl | rfl | rfl | rfl | rfl | rfl | rfl | rfl | rfl | rfl | rfl | rfl | rfl | rfl | rfl | rfl | rfl | rfl | rfl | rfl
    · exact rex_1 he hr hs
    · exact rex_2 he hr hs
    · exact rex_3 he hr hs
    · exact rex_4 he hr hs
    · exact rex_5 he hr hs
    · exact rex_6 he hr hs
    · exact rex_7 he hr hs
    · exact rex_8 he hr hs
    · exact rex_9 he hr hs
    · exact rex_10 (fun u hu => (IH u hu).pr) hr hs
    · exact rex_14 hf hr hs
    · exact rex_15 he hr hs
    · exact rex_16 he hr hs
    · exact rex_17 he hr hs
    · exact rex_18 he hr hs
    · rcases ks with _ | ⟨a, _ | ⟨b, ks⟩⟩
      · exact rex_19n (by simp) hr hs
      · exact rex_19 he hr hs
      · exact rex_19n (by simp) hr hs
    · exact rex_20 he hr hs
    · exact rex_21 he hr hs
    · exact rex_22 he hr hs
    · exact rex_23 he hr hs
    · rcases ks with _ | ⟨a, _ | ⟨b, _ | ⟨c, ks⟩⟩⟩
      · exact rex_24n (by simp) hr hs
      · exact rex_24n (by simp) hr hs
      · exact rex_24 he hr hs
      · exact rex_24n (by simp) hr hs
  · exact rex_else hk hr
theorem try_step {n : Int} {tx : ByteArray} {ns : List ByteArray} {ks : List Tree} (IH : ∀ u ∈ ks, AllC u) (IH2 : ∀ u ∈ ks, ∀ v ∈ u.kids, AllC v) : TryC (.mk 38 n tx ns ks) := by
  intro N w hr hs
  by_cases h1 : n < 1
  · exact rtry_lo h1 hr hs
  by_cases h3 : 3 < n
  · exact rtry_hi h3 hr hs
  rcases (by omega : n = 1 ∨ n = 2 ∨ n = 3) with rfl | rfl | rfl
  · rcases ks with _ | ⟨a, _ | ⟨⟨kb, nb, tb, sb, kk⟩, _ | ⟨c, ks⟩⟩⟩
    · exact rtry_1n (by simp) hr hs
    · exact rtry_1n (by simp) hr hs
    · rcases kk with _ | ⟨d, _ | ⟨e, kk⟩⟩
      · exact rtry_1k (by simp) (IH a (by simp)).bl hr hs
      · exact rtry_1d (IH a (by simp)).bl (IH2 (.mk kb nb tb sb [d]) (by simp) d (by simp [Tree.kids])).bl hr hs
      · exact rtry_1k (by simp) (IH a (by simp)).bl hr hs
    · exact rtry_1n (by simp) hr hs
  · rcases ks with _ | ⟨a, _ | ⟨b, _ | ⟨c, ks⟩⟩⟩
    · exact rtry_2n (by simp) hr hs
    · exact rtry_2n (by simp) hr hs
    · exact rtry_2 (IH a (by simp)).bl (IH b (by simp)).bl hr hs
    · exact rtry_2n (by simp) hr hs
  · rcases ks with _ | ⟨a, _ | ⟨⟨kb, nb, tb, sb, kk⟩, _ | ⟨c, _ | ⟨x, ks⟩⟩⟩⟩
    · exact rtry_3n (by simp) hr hs
    · exact rtry_3n (by simp) hr hs
    · exact rtry_3n (by simp) hr hs
    · rcases kk with _ | ⟨d, _ | ⟨e, kk⟩⟩
      · exact rtry_3k (by simp) (IH a (by simp)).bl hr hs
      · exact rtry_3d (IH a (by simp)).bl (IH2 (.mk kb nb tb sb [d]) (by simp) d (by simp [Tree.kids])).bl (IH c (by simp)).bl hr hs
      · exact rtry_3k (by simp) (IH a (by simp)).bl hr hs
    · exact rtry_3n (by simp) hr hs
theorem st_step {t : Tree} (IH : ∀ u ∈ t.kids, AllC u) (IH2 : ∀ u ∈ t.kids, ∀ v ∈ u.kids, AllC v) : StmC t := by
  have hb : BlkC t := blk_step IH
  obtain ⟨k, n, tx, ns, ks⟩ := t
  replace IH : ∀ u ∈ ks, AllC u := IH
  replace IH2 : ∀ u ∈ ks, ∀ v ∈ u.kids, AllC v := IH2
  have he : ExpsC ks := exps_all fun u hu => (IH u hu).ex
  intro N w hr hs
  by_cases hk : 30 ≤ k ∧ k ≤ 43 ∧ k ≠ 39
  · rcases (by omega : k = 30 ∨ k = 31 ∨ k = 32 ∨ k = 33 ∨ k = 34 ∨ k = 35 ∨ k = 36 ∨ k = 37 ∨ k = 38 ∨ k = 40 ∨ k = 41 ∨ k = 42 ∨ k = 43) with rfl | rfl | rfl | rfl | rfl | rfl | rfl | rfl | rfl | rfl | rfl | rfl | rfl
    · exact rst_30 he hr hs
    · exact rst_31 he hr hs
    · rcases ks with _ | ⟨a, _ | ⟨b, ks⟩⟩
      · exact rst_32n (by simp) hr hs
      · exact rst_32 (IH a (by simp)).fn hr hs
      · exact rst_32n (by simp) hr hs
    · exact rst_33 he hr hs
    · rcases ks with _ | ⟨a, _ | ⟨b, _ | ⟨c, _ | ⟨d, ks⟩⟩⟩⟩
      · exact rst_34s (by simp) hr hs
      · exact rst_34s (by simp) hr hs
      · exact rst_34b (IH a (by simp)).ex (stmts_all fun u hu => (IH u (List.mem_cons_of_mem _ hu)).st) hr hs
      · exact rst_34c (IH a (by simp)).ex (stmts_all fun u hu => (IH u (List.mem_cons_of_mem _ hu)).st) (IH b (by simp)).op hr hs
      · exact rst_34l (by simp) hr hs
    · rcases ks with _ | ⟨a, _ | ⟨b, _ | ⟨c, ks⟩⟩⟩
      · exact rst_35n (by simp) hr hs
      · exact rst_35n (by simp) hr hs
      · exact rst_35 (IH a (by simp)).ex (IH b (by simp)).st hr hs
      · exact rst_35n (by simp) hr hs
    · exact rst_36 he hr hs
    · exact rst_37 he hr hs
    · exact rst_38 (try_step IH IH2) hr hs
    · exact rst_40 hb hr hs
    · exact rst_41 hr hs
    · exact rst_42 hr hs
    · exact rst_43 hr hs
  · exact rst_else hk hr
theorem all_any : ∀ (m : Nat) (t : Tree), t.sz ≤ m → AllC t
  | 0, t, h => by
    obtain ⟨a, b, c, d, e⟩ := t
    unfold Tree.sz at h
    omega
  | m + 1, t, h => by
    have hsub : ∀ u ∈ t.kids, u.sz ≤ m := by
      obtain ⟨a, b, c, d, e⟩ := t
      unfold Tree.sz at h
      intro u hu
      obtain ⟨i, hi, rfl⟩ := List.getElem_of_mem hu
      have hu2 : e[i]? = some e[i] := List.getElem?_eq_getElem hi
      have := szs_at hu2
      show e[i].sz ≤ m
      omega
    have IH : ∀ u ∈ t.kids, AllC u := fun u hu => all_any m u (hsub u hu)
    have IH2 : ∀ u ∈ t.kids, ∀ v ∈ u.kids, AllC v := fun u hu v hv => by
      refine all_any m v ?_
      have h1 := hsub u hu
      obtain ⟨a, b, c, d, e⟩ := u
      unfold Tree.sz at h1
      obtain ⟨i, hi, rfl⟩ := List.getElem_of_mem hv
      have hv2 : e[i]? = some e[i] := List.getElem?_eq_getElem hi
      have := szs_at hv2
      show e[i].sz ≤ m
      omega
    exact ⟨ex_step IH, st_step IH IH2, pair_step IH, func_step IH, blk_step IH, open_step fun u hu => (IH u hu).op⟩
theorem right_any {t : Tree} {N : Nd} {w : World} (hr : Rd w t N) (hs : Str t) : Calls Tryz.prog 17 #[.agg (ncs N)] w (PostR w (.bool (okT 80 t))) := by
  obtain ⟨k, n, tx, ns, ks⟩ := t
  by_cases h : k = 44
  · subst h
    exact rprog_44 (stmts_all fun u hu => (all_any _ u (Nat.le_refl _)).st) hr hs
  · exact rprog_else h hr
end Go.Proofs.YtinoaajohkafmaaGreat.Pr
