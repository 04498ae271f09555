/-
  The reference's Order: its walk.
-/
import Derived.Test.YtlhgiihooalanaaDoorHpROrd
import Derived.Test.YtlhgiihooalanaaDoorHpMake
import Derived.Deep.CutBlock
import Derived.Lib.AppendZeros
import Derived.Deep.LoopGhost
namespace Go.Proofs.YtlhgiihooalanaaDoor.Hp
open Go Go.RowKit Go.Maps Go.Proofs.YtlhgiihooalanaaDoor.Keys Go.Proofs.YtlhgiihooalanaaDoor.Nums
set_option linter.unusedVariables false
set_option linter.unusedSimpArgs false
attribute [local irreducible] from_
theorem keyed_head (ao : Option Addr) (cap j : Nat) (ks : List KV) (k : KV) (w : World) (hj : j ≤ ks.length) (hl : ks.length ≤ 1000000) (hc : KeysAt ao ks w) :
    Calls Tryd.prog 8 #[.slice ao j cap, .agg #[.string k.1, .int .i64 k.2]] w fun x w' => x = .returned (.bool (memb k (ks.take j))) ∧ Below w.heap.size w w' := by
  have e : (ks.take j).length = j := by rw [List.length_take]; omega
  have h := keyed_any ao cap (ks.take j) k w (by rw [e]; omega) (keysAt_take hc j)
  rw [e] at h
  exact h
theorem KeysAt.drew {ao : Option Addr} {ks : List KV} {w : World} (h : KeysAt ao ks w) : KeysAt ao ks w.drew := h
theorem ridx_no (k : KV) (h : kidx k = none) (w : World) : Calls Tryd.prog 20 #[.agg #[.string k.1, .int .i64 k.2]] w fun e w' => e = .returned (.tuple #[.int .i64 0, .bool false]) ∧ Below w.heap.size w w' := by
  have := rindex_key k w
  rw [h] at this
  exact this
theorem ridx_yes (k : KV) (n : Int) (h : kidx k = some n) (w : World) : Calls Tryd.prog 20 #[.agg #[.string k.1, .int .i64 k.2]] w fun e w' => e = .returned (.tuple #[.int .i64 n, .bool true]) ∧ Below w.heap.size w w' := by
  have := rindex_key k w
  rw [h] at this
  exact this
set_option maxRecDepth 100000 in
set_option maxHeartbeats 4000000 in
theorem rorder_any (ao : Option Addr) (cap : Nat) (ks : List KV) (w : World) (hlen : ks.length ≤ 1000000) (hcap : ks.length ≤ cap) (hc : KeysAt ao ks w) :
    Calls Tryd.prog 11 #[.slice ao ks.length cap] w (RPost ks w) := by
  obtain ⟨i26, hi26, hz260, hz261, hz262⟩ := info_parts info26
  have HC := Lib.hid hc
  clear hc
  go_enter Tryd.func11, Tryd.ntmps11
  go_wp2
  go_loopw [3, 4, 5, 6] (fun v3 v4 v5 i wr => ∃ j : Nat, j ≤ ks.length ∧ i = .int .i64 j ∧ ROrd w ks j v3 v4 v5 wr) (fun _ _ _ i _ => ks.length - (intOf i).toNat)
  case atStart => exact ⟨0, Nat.zero_le _, rfl, ROrd.start w ks⟩
  case round =>
    obtain ⟨j, hj, rfl, hinv⟩ := hrel
    by_cases hlt : j < ks.length
    · obtain ⟨k, hk⟩ : ∃ k, ks[j]? = some k := ⟨ks[j], by simp [hlt]⟩
      have hlt2 : (j : Int) < ks.length := by omega
      obtain ⟨b, off, rfl, hb, z0, z1⟩ := HC.out j k hk
      have HCL : Hid (∀ w', Below w.heap.size w w' → w'.cell? ⟨b, off + j * 2, none⟩ = some (.string k.1) ∧ w'.cell? ⟨b, off + j * 2 + 1, none⟩ = some (.int .i64 k.2)) := Lib.hid fun w' h => ⟨(h.cell (p := ⟨b, off + j * 2, none⟩) hb).trans z0, (h.cell (p := ⟨b, off + j * 2 + 1, none⟩) hb).trans z1⟩
      obtain ⟨c0, c1⟩ := HCL.out wr hinv.below
      have hsl := sl_head (some ⟨b, off, none⟩) ks.length cap j (by omega)
      have hky := keyed_head (some ⟨b, off, none⟩) cap j ks k wr.drew hj hlen (HC.out.below hinv.below.drew)
      have HK := Lib.hid hk
      have hol := once_len hj
      clear hk hb z0 z1
      cases hm : memb k (ks.take j)
      · rw [hm] at hky
        have HM := Lib.hid hm
        clear hm
        go_wp2
        go_region_with (go_at_call 8; refine hky.mono ?_; rintro e w2 ⟨rfl, hb2⟩; have hi := Lib.hid ((hinv.next (Below.refl _ wr).drew).next hb2); obtain ⟨d0, d1⟩ := HCL.out w2 hi.out.below)
        clear hinv hky hb2 c0 c1
        rcases sort3 k with ⟨n, hn⟩ | ⟨h0, hn⟩ | ⟨h0, hn⟩
        · have hix := ridx_yes k n hn w2
          have hz : (k.2 != 0) = false := by rw [(kidx_some hn).1]; rfl
          have HN := Lib.hid hn
          clear hn
          go_wp2_with (go_at_call 20; refine hix.mono ?_; rintro e w3 ⟨rfl, hb3⟩; have hi3 := Lib.hid (hi.out.next hb3); obtain ⟨e0, e1⟩ := HCL.out w3 hi3.out.below; refine Hid.out ?_)
          refine Lib.hid ?_
          clear hi hix hb3 d0 d1
          obtain ⟨a3, c3, hv3⟩ := own_shape hi3.out.r1
          subst hv3
          obtain ⟨T, hT⟩ : ∃ T, ahead n (ks.take j) = T := ⟨_, rfl⟩
          have hTL : T ≤ (numsOf (ks.take j)).length := by rw [← hT]; exact ahead_le _ _
          obtain ⟨L, hL⟩ : ∃ L, (numsOf (ks.take j)).length = L := ⟨_, rfl⟩
          rw [hL] at hTL
          have hLj : L ≤ j := by have := numsOf_len (ks.take j); rw [hL, List.length_take] at this; omega
          have HT := Lib.hid hT
          have HL := Lib.hid hL
          rw [hL]
          clear hT hL
          go_upto_block 3 with fail
          go_cut [9, 10, 11] from 13 to 89 (fun s x y wx => s = .int .i64 T ∧ Below w3.heap.size w3 wx)
          case first =>
            go_wp2_with fail
            go_loopg [9] L (fun g i wx => ∃ q : Nat, q ≤ T ∧ g = L - q ∧ i = .int .i64 q ∧ Below w3.heap.size w3 wx)
            case atStart => exact ⟨0, Nat.zero_le _, rfl, rfl, Below.refl _ _⟩
            case round =>
              obtain ⟨q, hq, rfl, rfl, hbq⟩ := hrel
              by_cases hql : q < L
              · obtain ⟨x, x1, x2, x3, x4⟩ := nums_at (l := ks.take j) (i := q) (by rw [HL.out]; exact hql)
                have hat := ahead_at x2 (by rw [HT.out]; exact hq)
                rw [HT.out] at hat
                have hrow := own_below (hi3.out.r1) hbq
                obtain ⟨g, off2, hae, hgl, f0, f1⟩ := keysAt_own hrow q _ x1
                subst hae
                have hql2 : (q : Int) < L := by omega
                have hrx := rindex_kb x x3 x4 wr
                have HQ := Lib.hid hbq
                clear hrow hbq x1 x2
                by_cases hxn : x ≤ n
                · have hd : decide (n < x) = false := by simp; omega
                  have hqT := hat.2 hxn
                  have HQT := Lib.hid hqT
                  clear hxn hat hqT
                  go_wp2_with (go_at_call 20; refine hrx.mono ?_; rintro e w4 ⟨rfl, hb4⟩)
                  go_roundg (L - (q + 1))
                  case measure => omega
                  case rel => exact ⟨q + 1, by have := HQT.out; omega, rfl, by go_num, HQ.out.trans (hb4.mono HQ.out.size)⟩
                · have hd : decide (n < x) = true := by simp; omega
                  obtain rfl : q = T := by
                    have := fun h => hxn (hat.1 h)
                    omega
                  clear hxn hat hq
                  go_wp2_with (go_at_call 20; refine hrx.mono ?_; rintro e w4 ⟨rfl, hb4⟩)
                  go_meet
                  exact ⟨rfl, HQ.out.trans (hb4.mono HQ.out.size)⟩
              · obtain rfl : q = T := by omega
                have hql2 : ¬ ((q : Int) < L) := by omega
                go_wp2
                go_meet
                exact ⟨rfl, hbq⟩
          case rest =>
            obtain ⟨rfl, hbc⟩ := hcut
            have hi4 : ROrd w ks j (.slice a3 L c3) u4 u5 wc := by
              have := hi3.out.next hbc
              rw [HL.out] at this
              exact this
            have hcap3 : L ≤ c3 := by
              have := hi4.r1
              rw [HL.out] at this
              exact own_cap this
            obtain ⟨vt, w5, v5, w6, v6, w7, r5, r6, r7, hb5, hfin⟩ := idx_steps hi4 HK.out HM.out HN.out HT.out HL.out (by omega)
            have hsf := sl_from a3 L c3 T hTL
            have hsh := sl_head a3 L c3 T (by omega)
            obtain ⟨p0, p1⟩ := HCL.out w5.drew hb5.drew
            have HF := Lib.hid hfin
            clear hi4 hi3 hbc hb5 hfin hcap3 e0 e1
            go_wp2_with (at_builtin; refine Lib.wpList_append_run _ rfl _ _ _ _ rfl _ _ rfl rfl _ _ r5 ?_)
            go_region_law (first | (refine step_app rfl (.tmp 81) (.tmp 86) 22 rfl rfl _ _ _ (by simp [Act.eval, Act.put]) (by simp [Act.eval, Act.put]) r6 ?_) | (refine step_app rfl (.tmp 87) (.tmp 88) 22 rfl rfl _ _ _ (by simp [Act.eval, Act.put]) (by simp [Act.eval, Act.put]) r7 ?_))
            all_goals go_wp2
            all_goals go_roundw
            case rel => exact ⟨j + 1, by omega, by go_num, HF.out⟩
            case measure => simp [intOf]; omega
        · have hix := ridx_no k hn w2
          have HN := Lib.hid hn
          have HS := Lib.hid h0
          clear hn
          go_wp2_with (go_at_call 20; refine hix.mono ?_; rintro e w3 ⟨rfl, hb3⟩; have hi3 := Lib.hid (hi.out.next hb3); obtain ⟨e0, e1⟩ := HCL.out w3 hi3.out.below; refine Hid.out ?_)
          refine Lib.hid ?_
          clear hi hix hb3 d0 d1
          have hr := hi3.out.r3
          have hws3 := hi3.out.below.size
          obtain ⟨m, hm⟩ : ∃ m, (syms (once (ks.take j))).length = m := ⟨_, rfl⟩
          have hil2 := syms_len (once (ks.take j))
          rw [hm] at hr hil2
          have HL := Lib.hid hm
          clear hm
          go_wp2_with (at_builtin; refine wpList_append_own_at _ rfl _ _ 22 rfl w.heap.size 35 i26 (.agg #[.string ⟨#[]⟩, .int .i64 0]) 2 24 Tryd.underlying22 hi26 hz260 hz261 hz262 rfl (by decide) _ _ _ rfl (hr.alloc _) ⟨w3.heap.size, 0, none⟩ 1 1 [.string k.1, .int .i64 k.2] rfl rfl (two_new _ _ _ _) (two_cells _ _) (by unfold maxLen; omega) (by omega) (size_alloc_le _ hws3) ?_; intro v' w4 hown4 hgrow4 _ hat4)
          have hinv' := hi3.out.sym HK.out HM.out HS.out HN.out (by rw [HL.out]; exact hown4) hgrow4 hat4
          clear hown4 hgrow4 hat4 hi3 hr
          go_wp2
          go_roundw
          case rel => exact ⟨j + 1, by omega, by go_num, hinv'⟩
          case measure => simp [intOf]; omega
        · have hz : (k.2 != 0) = false := by rw [h0]; rfl
          have hix := ridx_no k (by rw [kidx, if_pos h0]; exact hn) w2
          have HN := Lib.hid hn
          have HS := Lib.hid h0
          clear hn h0
          go_wp2_with (go_at_call 20; refine hix.mono ?_; rintro e w3 ⟨rfl, hb3⟩; have hi3 := Lib.hid (hi.out.next hb3); obtain ⟨e0, e1⟩ := HCL.out w3 hi3.out.below; refine Hid.out ?_)
          refine Lib.hid ?_
          clear hi hix hb3 d0 d1
          have hr := hi3.out.r2
          have hws3 := hi3.out.below.size
          obtain ⟨m, hm⟩ : ∃ m, (names (once (ks.take j))).length = m := ⟨_, rfl⟩
          have hil2 := names_len (once (ks.take j))
          rw [hm] at hr hil2
          have HL := Lib.hid hm
          clear hm
          go_wp2_with (at_builtin; refine wpList_append_own_at _ rfl _ _ 22 rfl w.heap.size 35 i26 (.agg #[.string ⟨#[]⟩, .int .i64 0]) 2 24 Tryd.underlying22 hi26 hz260 hz261 hz262 rfl (by decide) _ _ _ rfl (hr.alloc _) ⟨w3.heap.size, 0, none⟩ 1 1 [.string k.1, .int .i64 k.2] rfl rfl (two_new _ _ _ _) (two_cells _ _) (by unfold maxLen; omega) (by omega) (size_alloc_le _ hws3) ?_; intro v' w4 hown4 hgrow4 _ hat4)
          have hinv' := hi3.out.name HK.out HM.out HS.out HN.out (by rw [HL.out]; exact hown4) hgrow4 hat4
          clear hown4 hgrow4 hat4 hi3 hr
          go_wp2
          go_roundw
          case rel => exact ⟨j + 1, by omega, by go_num, hinv'⟩
          case measure => simp [intOf]; omega
      · rw [hm] at hky
        have HM := Lib.hid hm
        clear hm
        go_wp2
        go_region_with (go_at_call 8; refine hky.mono ?_; rintro e w2 ⟨rfl, hb2⟩; have hi := Lib.hid ((hinv.next (Below.refl _ wr).drew).next hb2))
        all_goals go_wp2
        all_goals go_roundw
        all_goals first
          | (case rel => exact ⟨j + 1, by omega, by go_num, hi.out.old HK.out HM.out⟩)
          | (case measure => simp [intOf]; omega)
    · obtain rfl : j = ks.length := by omega
      clear hlt hj
      obtain ⟨h1, h2, h3, a12, a13, a23, hb⟩ := hinv
      rw [List.take_length] at h1 h2 h3
      have hs := hb.size
      have l1 := numsOf_len ks
      have l2 := Nat.le_trans (names_len (once ks)) (once_length ks)
      have l3 := Nat.le_trans (syms_len (once ks)) (once_length ks)
      obtain ⟨N, hN⟩ : ∃ N, numsOf ks = N := ⟨_, rfl⟩
      obtain ⟨T, hT⟩ : ∃ T, names (once ks) = T := ⟨_, rfl⟩
      obtain ⟨Y, hY⟩ : ∃ Y, syms (once ks) = Y := ⟨_, rfl⟩
      rw [hN] at h1 l1
      rw [hT] at h2 l2
      rw [hY] at h3 l3
      have HN := Lib.hid hN
      have HT := Lib.hid hT
      have HY := Lib.hid hY
      clear hN hT hY
      go_wp2_with (at_builtin; refine wpList_append_src rfl _ _ 22 rfl w.heap.size 35 i26 (.agg #[.string ⟨#[]⟩, .int .i64 0]) 2 24 Tryd.underlying22 hi26 hz260 hz261 hz262 rfl (by decide) _ _ _ rfl h1 _ _ _ _ rfl h2 (cellsK_one' _) (by unfold maxLen; omega) (by omega) hs ?_; intro v6 w6 hown6 hgrow6 hat6; refine Hid.out ?_)
      refine Lib.hid ?_
      have h3' := h3.kept hgrow6 (ap_symm a13)
      have hb6 := hb.grown hgrow6 hs (fun k hk => (h1.lt k hk).1)
      have hs6 := Nat.le_trans hs hgrow6.size
      clear h1 h2 h3 hgrow6 hat6 hb a12 a13 a23
      go_wp2_with (at_builtin; refine wpList_append_src rfl _ _ 22 rfl w.heap.size 35 i26 (.agg #[.string ⟨#[]⟩, .int .i64 0]) 2 24 Tryd.underlying22 hi26 hz260 hz261 hz262 rfl (by decide) _ _ _ rfl hown6 _ _ _ _ rfl h3' (cellsK_one' _) (by unfold maxLen; omega) (by omega) hs6 ?_; intro v7 w7 hown7 hgrow7 _; refine Hid.out ?_)
      refine Lib.hid ?_
      have hb7 := hb6.grown hgrow7 hs6 (fun k hk => (hown6.lt k hk).1)
      clear hown6 hgrow7 hb6 h3'
      go_wp2
      go_ret
      refine ⟨v7, rfl, ?_, hb7⟩
      rw [ordF_eq, ← show numsOf ks = numK (rise (idxs (once ks))) from rfl, HN.out, HT.out, HY.out, cellsK_append, cellsK_append, List.length_append, List.length_append]
      exact hown7
end Go.Proofs.YtlhgiihooalanaaDoor.Hp
