/-
  The walk of the law HeapOrder: a list of one to thirty keys.
-/
import Derived.Test.YtlhgiihooalanaaDoorHpLawOrd
import Derived.Test.YtlhgiihooalanaaDoorHpOut
import Derived.Deep.DeepCutAuto
namespace Go.Proofs.YtlhgiihooalanaaDoor.Hp
open Go Go.RowKit Go.Maps Go.Shelf Go.Proofs.YtlhgiihooalanaaDoor.Keys
set_option linter.unusedVariables false
set_option linter.unusedSimpArgs false
attribute [local go_sem ↓] run_eqZ ldE ldT ldD bxT bxO bdO bdT bdDs alE alT alD stE stT stD
attribute [local irreducible] ecs ncs hcs dcs tcs ocs from_ ordF cellsK HKs
attribute [local go_sem] run_bx run_alE run_alT run_alD run_bdO run_bdT0 run_bdT1 run_bdT5 run_bdDs run_bdPut tcs_0 tcs_5 tcs_20 tcs_set5 tcs_set20 ocs_24
set_option maxRecDepth 100000 in
set_option maxHeartbeats 8000000 in
theorem lawOrd_main (ao : Option Addr) (cap : Nat) (ks : List KV) (A : Nat) (w : World) (h1 : 1 ≤ ks.length) (h30 : ks.length ≤ 30) (hc : KeysAt ao ks w) (hi : ∀ k ∈ ks, -9223372036854775808 ≤ k.2 ∧ k.2 ≤ 9223372036854775807) (hL : Nums.Lw w) :
    Calls Tryd.prog 3 #[.slice ao ks.length cap, .int .i64 (A : Int)] w fun e w' => e = .returned (.bool true) ∧ Below w.heap.size w w' := by
  have hn1 : decide ((ks.length : Int) < 1) = false := by simp; omega
  have hn2 : decide (30 < (ks.length : Int)) = false := by simp; omega
  have hn3 : decide ((A : Int) < 0) = false := by simp
  have HC := Lib.hid hc
  have HI := Lib.hid hi
  have HL := Lib.hid hL
  have H1 := Lib.hid h1
  obtain ⟨i26, hi26, hz260, hz261, hz262⟩ := info_parts info26
  clear hc hi hL h1
  go_enter Tryd.func3, Tryd.ntmps3
  go_wp2_with (first | (go_at_call 4; refine (alive_any _).mono ?_; rintro e w1 ⟨rfl, hb1⟩) | (go_at_call 5; refine (new_any _ _).mono ?_; rintro e wz ⟨rfl, rfl⟩; refine Hid.out ?_))
  refine Lib.hid ?_
  have s1 := hb1.size
  obtain ⟨w2, hw2⟩ : ∃ w2, w1.alloc (.cells (hp 1 nilS 0) 51) = w2 := ⟨_, rfl⟩
  have y2 : Blk w2 w1.heap.size (hp 1 nilS 0) 51 := by rw [← hw2]; exact Blk.new w1 _ _
  have b2 : Below w.heap.size w w2 := by rw [← hw2]; exact hb1.alloc s1 _
  rw [hw2]
  have hmk := make_any w.heap.size w1.heap.size 1 none 0 0 0 [] zeroT [] [] w2 y2 s1 (World.ownsRow_nil _ _ _ _) (by omega) (by simp) (fun w' _ => store_zero zeroT rfl rfl w')
  have B2 := Lib.hid b2
  clear hw2 y2 b2 hb1
  go_wp2_with (go_at_call 6; refine hmk.mono ?_; rintro e w4 ⟨rfl, g, c, hbk, ob, pb, mb, ns, a4, m4, c4, hrow, hat, hb4, -⟩; refine Hid.out ?_)
  refine Lib.hid ?_
  obtain ⟨th, hth⟩ : ∃ th : Th, { zeroT with props := Value.slice none 0 0, args := .slice a4 m4 c4 } = th := ⟨_, rfl⟩
  have hst : LOrd w w1.heap.size g c ob pb mb th ks 0 (.slice none 0 0) w4 := by
    have hns : ns = [] := List.map_eq_nil_iff.1 hat.es
    subst hns
    have hbase := B2.out.size
    refine ⟨[], ⟨hbk, ?_, by rw [← hth]; exact hat.blk, hat.obj, ⟨by simp, by simp⟩, fun b hb => Nat.le_trans hbase (hat.low b hb), Nat.le_trans hbase hat.lowm, B2.out.trans hb4⟩, rfl, own_start _ _ _, by simp⟩
    rcases hrow.2 with ⟨h, _⟩ | ⟨g', cap', cur, h, h2, h3, h4, h5, h6, h7⟩
    · cases h
    · simp only [Value.slice.injEq, Option.some.injEq, Addr.mk.injEq] at h
      obtain ⟨⟨rfl, -⟩, -⟩ := h
      refine ⟨cur, h3, ?_⟩
      have : (cur.toList.take (1 * 1))[0]? = some (ptr ob) := by rw [h7]; rfl
      rw [List.getElem?_take] at this
      simpa using this
  clear hmk hbk hrow hat hb4 hth
  go_wp2
  go_loopw [7, 8] (fun v i wr => ∃ j : Nat, j ≤ ks.length ∧ i = .int .i64 j ∧ LOrd w w1.heap.size g c ob pb mb th ks j v wr) (fun _ i _ => ks.length - (intOf i).toNat)
  case atStart => exact ⟨0, Nat.zero_le _, rfl, hst⟩
  case round =>
    clear hst
    obtain ⟨j, hj, rfl, ns, hx, hks, hrow, hfine⟩ := hrel
    by_cases hlt : j < ks.length
    · obtain ⟨k, hk⟩ : ∃ k, ks[j]? = some k := ⟨ks[j], by simp [hlt]⟩
      have hlt2 : (j : Int) < ks.length := by omega
      obtain ⟨b, off, rfl, hb, z0, z1⟩ := HC.out j k hk
      have HCL : Hid (∀ w', Below w.heap.size w w' → w'.cell? ⟨b, off + j * 2, none⟩ = some (.string k.1) ∧ w'.cell? ⟨b, off + j * 2 + 1, none⟩ = some (.int .i64 k.2)) := Lib.hid fun w' h => ⟨(h.cell (p := ⟨b, off + j * 2, none⟩) hb).trans z0, (h.cell (p := ⟨b, off + j * 2 + 1, none⟩) hb).trans z1⟩
      obtain ⟨c0, c1⟩ := HCL.out wr hx.below
      have hki := HI.out k (List.mem_of_getElem? hk)
      have HK := Lib.hid hk
      have hol := once_len hj
      clear hk hb z0 z1
      by_cases hbig : 100 < (k.1.size : Int)
      · have hd : decide (100 < (k.1.size : Int)) = true := by simp; omega
        have HB := Lib.hid hx.below
        clear hx hrow hks hfine hbig
        go_wp2
        go_ret
        exact ⟨rfl, HB.out⟩
      · have hd : decide (100 < (k.1.size : Int)) = false := by simp; omega
        have hkf : Fine k := ⟨by omega, hki⟩
        have hput := hx_put hx (by omega) k hkf (putD j)
        rw [hks] at hput
        have HKF := Lib.hid hkf
        have HF := Lib.hid hfine
        have HX := Lib.hid hks
        obtain ⟨M, hM⟩ : ∃ M, (once (ks.take j)).length = M := ⟨_, rfl⟩
        have HM := Lib.hid hM
        rw [hM] at hol
        obtain ⟨a7, c7, hv7⟩ := own_shape hrow
        rw [hM] at hv7
        subst hv7
        clear hbig hkf hfine hks hM
        cases hm : memb k (once (ks.take j))
        · have HMM := Lib.hid hm
          rw [hm] at hput
          clear hm
          go_wp2_with (go_at_call 7; refine hput.mono ?_; rintro e w3 ⟨rfl, ns', hx3, hks3, hro3⟩; refine Hid.out ?_)
          refine Lib.hid ?_
          rw [if_neg (by decide)] at hks3
          have hrow3 := hro3 _ _ _ _ hrow
          obtain ⟨d0, d1⟩ := HCL.out w3 hx3.below
          have hrow3' := hrow3
          rw [HM.out] at hrow3'
          have hky : Calls Tryd.prog 8 #[.slice a7 M c7, .agg #[.string k.1, .int .i64 k.2]] w3 fun x w' => x = .returned (.bool false) ∧ Below w3.heap.size w3 w' := by
            have h := keyed_any a7 c7 (once (ks.take j)) k w3 (by rw [HM.out]; omega) (keysAt_own (by rw [HM.out]; exact hrow3'))
            rw [HMM.out, HM.out] at h
            exact h
          have HX3 := Lib.hid hx3
          have HK3 := Lib.hid hks3
          have HR3 := Lib.hid hrow3
          clear hx hput hrow hro3 hx3 hks3 hrow3 hrow3' c0 c1
          go_wp2_with (go_at_call 8; refine hky.mono ?_; rintro e w5 ⟨rfl, hb5⟩; obtain ⟨e0, e1⟩ := HCL.out w5 (HX3.out.below.trans (hb5.mono HX3.out.below.size)); refine Hid.out ?_)
          refine Lib.hid ?_
          have hx5 := HX3.out.next hb5
          have hr5 := own_below HR3.out hb5
          have hws := hx5.below.size
          have hr5' := hr5
          rw [HM.out] at hr5'
          have HX5 := Lib.hid hx5
          have HR5 := Lib.hid hr5
          clear hx5 hr5 hb5 hky
          go_wp2_with (at_builtin; refine wpList_append_own_at _ rfl _ _ 22 rfl w.heap.size 35 i26 (.agg #[.string ⟨#[]⟩, .int .i64 0]) 2 24 Tryd.underlying22 hi26 hz260 hz261 hz262 rfl (by decide) _ _ _ rfl (hr5'.alloc _) ⟨w5.heap.size, 0, none⟩ 1 1 [.string k.1, .int .i64 k.2] rfl rfl (two_new _ _ _ _) (two_cells _ _) (by unfold maxLen; omega) (by omega) (size_alloc_le _ hws) ?_; intro v' w6 hown6 hgrow6 _ hat6)
          have hinv' := LOrd.new HX5.out HK3.out HR5.out HF.out HK.out HKF.out HMM.out (by rw [HM.out]; exact hown6) hgrow6
          clear hown6 hgrow6 hat6 hr5'
          go_wp2
          go_roundw
          case rel => exact ⟨j + 1, by omega, by go_num, hinv'⟩
          case measure => simp [intOf]; omega
        · have HMM := Lib.hid hm
          rw [hm] at hput
          clear hm
          go_wp2_with (go_at_call 7; refine hput.mono ?_; rintro e w3 ⟨rfl, ns', hx3, hks3, hro3⟩; refine Hid.out ?_)
          refine Lib.hid ?_
          simp only [if_true] at hks3
          have hrow3 := hro3 _ _ _ _ hrow
          obtain ⟨d0, d1⟩ := HCL.out w3 hx3.below
          have hrow3' := hrow3
          rw [HM.out] at hrow3'
          have hky : Calls Tryd.prog 8 #[.slice a7 M c7, .agg #[.string k.1, .int .i64 k.2]] w3 fun x w' => x = .returned (.bool true) ∧ Below w3.heap.size w3 w' := by
            have h := keyed_any a7 c7 (once (ks.take j)) k w3 (by rw [HM.out]; omega) (keysAt_own (by rw [HM.out]; exact hrow3'))
            rw [HMM.out, HM.out] at h
            exact h
          have HX3 := Lib.hid hx3
          have HK3 := Lib.hid hks3
          have HR3 := Lib.hid hrow3
          clear hx hput hrow hro3 hx3 hks3 hrow3 hrow3' c0 c1
          go_wp2_with (go_at_call 8; refine hky.mono ?_; rintro e w5 ⟨rfl, hb5⟩; have hinv' := Lib.hid (LOrd.old HX3.out HK3.out HR3.out HF.out HK.out HKF.out HMM.out hb5))
          go_roundw
          case rel => exact ⟨j + 1, by omega, by go_num, hinv'.out⟩
          case measure => simp [intOf]; omega
    · obtain rfl : j = ks.length := by omega
      clear hlt hj
      have hol := once_length ks
      have hmem := once_mem ks
      have hnd := once_nodup ks
      rw [List.take_length] at hks hrow hfine
      obtain ⟨O, hO⟩ : ∃ O, once ks = O := ⟨_, rfl⟩
      rw [hO] at hks hrow hol hmem hnd
      have hO1 : 0 < O.length := by
        have hh := H1.out
        have : ks[0] ∈ O := (hmem _).2 (List.getElem_mem (by omega))
        exact List.length_pos_of_mem this
      have hfO : ∀ k ∈ O, Fine k := fun k hk => hfine k ((hmem k).1 hk)
      clear hO hmem hfine
      obtain ⟨L, hLen⟩ : ∃ L, O.length = L := ⟨_, rfl⟩
      rw [hLen] at hrow hol hO1
      obtain ⟨a7, c7, hv7⟩ := own_shape hrow
      subst hv7
      have hsz := hx.below.size
      have hnl : ns.length = L := by rw [← hLen, ← hks]; simp [keysN]
      have hkeys := hx_keys hx (by omega) (by omega) (by rw [hks]; exact hfO) (HL.out.below hx.below)
      rw [hks] at hkeys
      go_wp2_with (go_at_call 10; refine hkeys.mono ?_; rintro e w5 ⟨v5, rfl, hk5⟩; refine Hid.out ?_)
      refine Lib.hid ?_
      obtain ⟨hr5, hb5⟩ := hks_out hk5
      have hb5' := hx.below.trans (hb5.mono hsz)
      have hx5 := hx.next hb5
      have hrow5 := own_below hrow hb5
      have hord : Calls Tryd.prog 11 #[.slice a7 L c7] w5 (RPost O w5) := by
        have h := rorder_any a7 c7 O w5 (by omega) (by rw [hLen]; exact own_cap hrow5) (keysAt_own (by rw [hLen]; exact hrow5))
        rw [hLen] at h
        exact h
      obtain ⟨a5, c5, hv5⟩ := own_shape hr5
      subst hv5
      have HR5 := Lib.hid hr5
      have HX5 := Lib.hid hx5
      have HW5 := Lib.hid hrow5
      have HKS := Lib.hid hks
      have HLN := Lib.hid hLen
      have HFO := Lib.hid hfO
      have HND := Lib.hid hnd
      clear hx hrow hkeys hk5 hr5 hb5 hx5 hrow5 hks hLen hfO hnd hb5'
      go_wp2_with (go_at_call 11; refine hord.mono ?_; rintro e w6 ⟨v6, rfl, hr6, hb6⟩; refine Hid.out ?_)
      refine Lib.hid ?_
      obtain ⟨a6, c6, hv6⟩ := own_shape hr6
      subst hv6
      have hol2 : (ordF O).length ≤ 1000000 := by have := ordF_small O; rw [HLN.out] at this; omega
      have hsame := sameK_any a5 a6 c5 c6 (ordF O) w6 hol2 ((keysAt_own HR5.out).below hb6) (keysAt_own hr6)
      have hx6 := HX5.out.next hb6
      have hw6 := own_below HW5.out hb6
      obtain ⟨N6, hN6⟩ : ∃ N, (ordF O).length = N := ⟨_, rfl⟩
      rw [hN6] at hsame ⊢
      have HX6 := Lib.hid hx6
      have HW6 := Lib.hid hw6
      clear hr6 hb6 hx6 hw6 hord HR5 HX5 HW5 hol2 hN6
      go_wp2_with (go_at_call 9; refine hsame.mono ?_; rintro e w7 ⟨rfl, hb7⟩; refine Hid.out ?_)
      refine Lib.hid ?_
      have hx7 := HX6.out.next hb7
      have hw7 := own_below HW6.out hb7
      obtain ⟨r, hr⟩ : ∃ r, A % L = r := ⟨_, rfl⟩
      have hrL : r < L := by rw [← hr]; exact Nat.mod_lt _ hO1
      have hrem := rem_cast A L
      rw [hr] at hrem
      obtain ⟨K, hK⟩ : ∃ K, O[r]? = some K := ⟨O[r]'(by rw [HLN.out]; exact hrL), by simp [HLN.out, hrL]⟩
      obtain ⟨g7, o7, ha7⟩ := own_addr hw7 HLN.out hK
      subst ha7
      obtain ⟨l, x, q, hsp, hxK, hkl, hkq⟩ := keysN_split HKS.out hK
      subst hsp
      have hfK : Fine K := HFO.out K (List.mem_of_getElem? hK)
      have hdrop := hx_drop hx7 (by rw [hxK]; exact hfK)
      rw [hxK] at hdrop
      have hgone : look (l ++ q) K = none := by
        rw [look_memb, keysN_append, hkl, hkq]
        exact gone_memb HND.out hK
      have hrL2 : (r : Int) < L := by omega
      obtain ⟨k70, k71⟩ := own_key hw7 HLN.out hK
      have HKK := Lib.hid hK
      have HKL := Lib.hid hkl
      have HKQ := Lib.hid hkq
      clear hr hK hkl hkq hsame hb7 HX6 HW6
      go_wp2_with (go_at_call 12; refine hdrop.mono ?_; rintro e w8 ⟨rfl, hx8, hro8⟩; refine Hid.out ?_)
      refine Lib.hid ?_
      have hw8 := hro8 _ _ _ _ hw7
      obtain ⟨k80, k81⟩ := own_key hw8 HLN.out HKK.out
      have hdrop2 := hx_drop_none hx8 K hfK hgone
      have HW8 := Lib.hid hw8
      clear hx7 hw7 hdrop hx8 hro8 hw8 k70 k71 HKS hxK
      go_wp2_with (go_at_call 12; refine hdrop2.mono ?_; rintro e w9 ⟨rfl, hx9, hro9⟩; refine Hid.out ?_)
      refine Lib.hid ?_
      have hw9 := hro9 _ _ _ _ HW8.out
      obtain ⟨k90, k91⟩ := own_key hw9 HLN.out HKK.out
      have hput := hx_put_new hx9 (by omega) K hfK hgone zeroD
      have HW9 := Lib.hid hw9
      clear hdrop2 hx9 hro9 hw9 k80 k81 HW8
      go_wp2_with (go_at_call 7; refine hput.mono ?_; rintro e w10 ⟨rfl, y, hy, hx10, hro10⟩; refine Hid.out ?_)
      refine Lib.hid ?_
      have hw10 := hro10 _ _ _ _ HW9.out
      have HX10 := Lib.hid hx10
      have HW10 := Lib.hid hw10
      have HY := Lib.hid hy
      clear hput hro10 k90 k91 HW9 hx10 hw10 hy
      go_upto_region 21 with fail
      obtain ⟨v1, u1, p1, q1, p2, q2, p3, q3, s2, t2, s3, t3, v2, u2, v3, u3, e1, e2, e3, e4, e5, e6, e7, e8, P1, P2, P3, R1, R2⟩ := out_steps HW10.out HLN.out hrL (by omega) K
      have hsh := sl_head (some ⟨g7, o7, none⟩) L c7 r (by have := own_cap HW10.out; omega)
      have hsf : ∀ w, (Instr.slice 22 (.slice (some ⟨g7, o7, none⟩) L c7) (some (.int .i64 ((r : Int) + 1))) none none).run Tryd.prog w = .ok (from_ (some ⟨g7, o7, none⟩) L c7 (r + 1)) w := fun w => sl_from _ L c7 (r + 1) (by omega) w
      have hwr : IntKind.i64.wrap ((r : Int) + 1) = (r : Int) + 1 := by
        have h30' : r ≤ 30 := by omega
        clear hrem
        rw [IntKind.wrap_i64]
        omega
      obtain ⟨ka0, ka1⟩ := own_key (w := w10.drew) HW10.out HLN.out HKK.out
      obtain ⟨kb0, kb1⟩ := own_key R1.row HLN.out HKK.out
      obtain ⟨kc0, kc1⟩ := own_key R2.row HLN.out HKK.out
      have Q1 := Lib.hid P1
      have Q2 := Lib.hid P2
      have Q3 := Lib.hid P3
      clear R1 R2 P1 P2 P3
      go_cut [12] (fun v wx => OutP w10 O L r K v wx)
      case first =>
        go_region_law (first | (refine step_app rfl (.const (.slice none 0 0)) (.tmp 104) 22 rfl rfl _ _ _ (by simp [Act.eval, Act.put]) (by simp [Act.eval, Act.put]) e1 ?_) | (refine step_app rfl (.const (.slice none 0 0)) (.tmp 104) 22 rfl rfl _ _ _ (by simp [Act.eval, Act.put]) (by simp [Act.eval, Act.put]) e2 ?_) | (refine step_app rfl (.tmp 105) (.tmp 109) 22 rfl rfl _ _ _ (by simp [Act.eval, Act.put]) (by simp [Act.eval, Act.put]) e3 ?_) | (refine step_app rfl (.tmp 105) (.tmp 109) 22 rfl rfl _ _ _ (by simp [Act.eval, Act.put]) (by simp [Act.eval, Act.put]) e5 ?_) | (refine step_app rfl (.tmp 105) (.tmp 109) 22 rfl rfl _ _ _ (by simp [Act.eval, Act.put]) (by simp [Act.eval, Act.put]) e7 ?_) | (refine step_app rfl (.tmp 110) (.tmp 115) 22 rfl rfl _ _ _ (by simp [Act.eval, Act.put]) (by simp [Act.eval, Act.put]) e4 ?_) | (refine step_app rfl (.tmp 110) (.tmp 115) 22 rfl rfl _ _ _ (by simp [Act.eval, Act.put]) (by simp [Act.eval, Act.put]) e6 ?_) | (refine step_app rfl (.tmp 110) (.tmp 115) 22 rfl rfl _ _ _ (by simp [Act.eval, Act.put]) (by simp [Act.eval, Act.put]) e8 ?_))
        all_goals go_wp2
        all_goals go_meet
        all_goals first
          | exact Q1.out
          | exact Q2.out
          | exact Q3.out
      case rest =>
        obtain ⟨hrc, hbc⟩ := hcut
        obtain ⟨OUT, hOUT⟩ : ∃ OUT, O.take r ++ O.drop (r + 1) ++ [K] = OUT := ⟨_, rfl⟩
        rw [hOUT] at hrc
        have hxc := HX10.out.next hbc
        have hkc : keysN (l ++ q ++ [y]) = OUT := by
          rw [keysN_append, keysN_append, HKL.out, HKQ.out, keysN_cons, HY.out]
          exact hOUT
        have hfOUT : ∀ k ∈ OUT, Fine k := fun k hk => by
          rw [← hOUT] at hk
          rcases List.mem_append.1 hk with hk | hk
          · rcases List.mem_append.1 hk with hk | hk
            · exact HFO.out k (List.mem_of_mem_take hk)
            · exact HFO.out k (List.mem_of_mem_drop hk)
          · rw [List.mem_singleton.1 hk]; exact hfK
        have hlOUT : OUT.length = L := by
          have := hrc.1
          rw [cellsK_length] at this
          omega
        have hyk : ekey y.e = K := by rw [HY.out]; rfl
        have hown := hx_own (l := l ++ q) (r := []) hxc (by rw [hyk]; exact hfK) zeroD (by rw [HY.out])
        rw [hyk] at hown
        obtain ⟨ke0, ke1⟩ := own_key (own_below HW10.out hbc) HLN.out HKK.out
        obtain ⟨a12, c12, hv12⟩ := own_shape hrc
        subst hv12
        have HXC := Lib.hid hxc
        have HRC := Lib.hid hrc
        have HKC := Lib.hid hkc
        clear hsh hsf hwr e1 e2 e3 e4 e5 e6 e7 e8 ka0 ka1 kb0 kb1 kc0 kc1 hxc hrc hkc hyk hOUT hbc
        go_wp2_with (go_at_call 13; refine hown.mono ?_; rintro e w11 ⟨rfl, hb11⟩; refine Hid.out ?_)
        refine Lib.hid ?_
        have hst := run_stD w11 zeroD zeroD
        obtain ⟨w12, hw12⟩ : ∃ w12, w11.alloc (.cells (dcs zeroD) 38) = w12 := ⟨_, rfl⟩
        have hb12 : Below wc.heap.size wc w12 := by rw [← hw12]; exact hb11.alloc hb11.size _
        have hld : (Ld 38 (.pointer (some ⟨w11.heap.size, 0, none⟩))).run Tryd.prog w12 = .ok (.agg (dcs zeroD)) w12 := by
          rw [← hw12]
          exact run_ldMid (fun j v hv => by rw [Nat.zero_add]; exact ((Blk.new w11 (dcs zeroD) 38).cell j).trans (by simpa using hv))
        have hal := run_alD w11
        rw [hw12] at hst hal
        have hx12 := HXC.out.next hb12
        have hr12 := own_below HRC.out hb12
        have hns : (l ++ q ++ [y]).length = L := by rw [← hlOUT, ← HKC.out]; simp [keysN]
        have hkeys2 := hx_keys hx12 (by omega) (by omega) (by rw [HKC.out]; exact hfOUT) (HL.out.below hx12.below)
        rw [HKC.out] at hkeys2
        have HX12 := Lib.hid hx12
        have HR12 := Lib.hid hr12
        have HFOUT := Lib.hid hfOUT
        clear hb11 hown hx12 hr12 hb12 hw12 hns hfOUT ke0 ke1
        go_wp2_with (go_at_call 10; refine hkeys2.mono ?_; rintro e w13 ⟨v13, rfl, hk13⟩; refine Hid.out ?_)
        refine Lib.hid ?_
        obtain ⟨hr13, hb13⟩ := hks_out hk13
        have hx13 := HX12.out.next hb13
        have hrow13 := own_below HR12.out hb13
        have hord2 : Calls Tryd.prog 11 #[.slice a12 L c12] w13 (RPost OUT w13) := by
          have h := rorder_any a12 c12 OUT w13 (by omega) (by rw [hlOUT]; exact own_cap hrow13) (keysAt_own (by rw [hlOUT]; exact hrow13))
          rw [hlOUT] at h
          exact h
        obtain ⟨a13, c13, hv13⟩ := own_shape hr13
        subst hv13
        have HR13 := Lib.hid hr13
        have HB13 := Lib.hid hx13.below
        clear hkeys2 hk13 hr13 hb13 hx13 hrow13
        go_wp2_with (go_at_call 11; refine hord2.mono ?_; rintro e w14 ⟨v14, rfl, hr14, hb14⟩; refine Hid.out ?_)
        refine Lib.hid ?_
        obtain ⟨a14, c14, hv14⟩ := own_shape hr14
        subst hv14
        have hol4 : (ordF OUT).length ≤ 1000000 := by have := ordF_small OUT; rw [hlOUT] at this; omega
        have hsame2 := sameK_any a13 a14 c13 c14 (ordF OUT) w14 hol4 ((keysAt_own HR13.out).below hb14) (keysAt_own hr14)
        have HB14 := Lib.hid (HB13.out.trans (hb14.mono HB13.out.size))
        obtain ⟨N14, hN14⟩ : ∃ N, (ordF OUT).length = N := ⟨_, rfl⟩
        rw [hN14] at hsame2 ⊢
        clear hr14 hb14 hord2 HR13 hol4 hN14
        go_wp2_with (go_at_call 9; refine hsame2.mono ?_; rintro e w15 ⟨rfl, hb15⟩)
        go_ret
        exact ⟨rfl, HB14.out.trans (hb15.mono HB14.out.size)⟩
theorem lawOrd_walk (ao : Option Addr) (cap : Nat) (ks : List KV) (again : Int) (w : World) (hc : KeysAt ao ks w) (hi : ∀ k ∈ ks, -9223372036854775808 ≤ k.2 ∧ k.2 ≤ 9223372036854775807) (hL : Nums.Lw w) :
    Calls Tryd.prog 3 #[.slice ao ks.length cap, .int .i64 again] w fun e w' => e = .returned (.bool true) ∧ Below w.heap.size w w' := by
  by_cases h : ks.length < 1 ∨ 30 < ks.length ∨ again < 0
  · exact lawOrd_out ao ks.length cap again w h
  · obtain ⟨m, rfl⟩ : ∃ m : Nat, again = m := ⟨again.toNat, by omega⟩
    exact lawOrd_main ao cap ks m w (by omega) (by omega) hc hi hL
end Go.Proofs.YtlhgiihooalanaaDoor.Hp
