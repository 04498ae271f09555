/-
  The walk of RulesClosed.
-/
import Derived.Test.YtlpfdhmifcmhaaaRuList
import Derived.WalkSpells
import Derived.WalkLawsBesides
import Derived.RegionTactic
import Derived.Lib.Hide
namespace Go.Proofs.Ytlpfdhmifcmhaaa.Des
open Go Go.RowKit Go.Maps Go.Proofs.Ytlpfdhmifcmhaaa.Vals Go.Proofs.Ytlpfdhmifcmhaaa.Keys Go.Proofs.Ytlpfdhmifcmhaaa.Arrs
set_option linter.unusedVariables false
set_option linter.unusedSimpArgs false
attribute [local go_sem ↓] to_ldD to_stD run_eqD run_eqV0 to_ldE to_alE to_stE run_eqK
attribute [local go_sem] n2 n3 m2 m3 rowD_drew rowD_drewN rowD_alloc rowD_putc rowD_other putD_drew putD_drewN putD_size putD_alloc setObj_cells run_ldD run_stD okC_dcs okC_lit objRow_dcs one_b one_i one_s objRow_lit dcs_0 dcs_1 dcs_2 dcs_3 dcs_4 dcs_5 dcs_6 dcs_7 dcs_8 dcs_9 dcs_10 dcs_11 dcs_12 dcs_13 dcs_14 dcs_15 dcs_16 dcs_17
attribute [local go_sem low] cell_rowD
attribute [local irreducible] ecs zer
attribute [local go_sem] run_alE run_stE ecs_0 ecs_1 ecs_10 ecs_19
attribute [local go_sem] eqV_refl eqD_refl

/-- Is there a property of this key among the first m? -/
def thereF (es : List En) (k : KV) (m : Nat) : Bool := (es.take m).any fun e => eqK e.ks e.kn k.1 k.2
theorem there_next {es : List En} {m : Nat} {e : En} (h : es[m]? = some e) (k : KV) : thereF es k (m + 1) = (thereF es k m || eqK e.ks e.kn k.1 k.2) := by
  unfold thereF
  rw [List.take_add_one, h]
  simp
theorem there_all {es : List En} {k : KV} (h : k ∈ es.map ekey) : thereF es k es.length = true := by
  unfold thereF
  rw [List.take_length]
  obtain ⟨e, he, rfl⟩ := List.mem_map.1 h
  exact List.any_eq_true.2 ⟨e, he, (eqK_iff (a := ekey e) (b := ekey e)).2 rfl⟩
set_option maxHeartbeats 8000000 in
set_option maxRecDepth 100000 in
theorem lawClosed_walk (d : Ds) (ao : Option Addr) (cap : Nat) (es : List En) (bo : Option Addr) (cb : Nat) (ks : List KV) (w : World) (fd : Fit d) (hle : (es.length : Int) ≤ 9223372036854775807) (hlk : (ks.length : Int) ≤ 9223372036854775807) (hce : EsAt ao es w) (hck : KeysAt bo ks w) (hfe : ∀ e ∈ es, Fine (ekey e)) (hfk : ∀ k ∈ ks, Fine k) : Calls Try.prog 6 #[DV d, .slice ao es.length cap, .slice bo ks.length cb] w fun e w' => e = .returned (.bool true) ∧ Below w.heap.size w w' := by
  obtain ⟨s, hs⟩ : ∃ s, rigR d = s := ⟨_, rfl⟩
  obtain ⟨p, hp⟩ : ∃ p, mayF d = p := ⟨_, rfl⟩
  have hS := rgr_is hs
  have hM := may_is fd hp
  have HCE := Lib.hid hce
  have HCK := Lib.hid hck
  have HFE := Lib.hid hfe
  have HFK := Lib.hid hfk
  clear fd hs hp hce hck hfe hfk
  go_enter Try.func6, Try.ntmps6
  go_wp2_with (go_at_call 9; refine (alive_any _).mono ?_; rintro e w1 ⟨rfl, hb1⟩; have := rowD_call hb1 (show rowD _ (w.heap.size) = some (dcs d) by first | assumption | (simp [rowD_alloc, objRow_dcs, rowD_drew, n2, n3, m2, m3]; done) | (simp [rowD_drew, rowD_alloc, n2, n3, m2, m3, objRow_dcs, objRow_lit, rowD_putc, rowD_other, putD_size, okC_dcs, okC_lit, one_b, one_i, one_s, *]; done)); have hbw : Below w.heap.size w w1 := bel_keep hb1 (by first | exact (by assumption) | exact two_bels _ _ _ | exact ball _ _ | exact bel_al (by assumption) | exact bel_drew (by assumption) | exact bel_drew (two_bels _ _ _) | exact three_bels _ _ _ _ | exact bel_al (bel_al (by assumption))); clear hb1; refine Hid.out ?_)
  refine Lib.hid ?_
  have hbg : Calls Try.prog 25 #[.slice ao es.length cap] w1 (BigPost es w1) := big_any ao cap es w1 hle (HCE.out.below hbw)
  go_wp2_with (go_at_call 25; (with_reducible refine Calls.mono hbg ?_); rintro x w1' ⟨bg, rfl, hbg2, rfl⟩; refine Hid.out ?_)
  refine Lib.hid ?_
  clear hbg
  cases hbv : bg with
  | true =>
    clear hbg2
    subst hbv
    go_wp2
    go_ret
    exact ⟨rfl, hbw⟩
  | false =>
    have h60 := (hbg2 hbv).1
    clear hbg2
    subst hbv
    by_cases h1 : 60 < (ks.length : Int)
    · go_wp2
      go_ret
      exact ⟨rfl, hbw⟩
    · have h1' : (ks.length : Int) ≤ 60 := by omega
      clear h1
      cases s
      · go_wp2_with (go_at_call 30; with_reducible refine (hS.at).mono ?_; rintro e w1 ⟨rfl, hb1⟩; have := rowD_call hb1 (show rowD _ (w.heap.size) = some (dcs d) by first | assumption | (simp [rowD_alloc, objRow_dcs, rowD_drew, n2, n3, m2, m3]; done) | (simp [rowD_drew, rowD_alloc, n2, n3, m2, m3, objRow_dcs, objRow_lit, rowD_putc, rowD_other, putD_size, okC_dcs, okC_lit, one_b, one_i, one_s, *]; done)); have hbw : Below w.heap.size w w1 := bel_keep hb1 (by first | exact (by assumption) | exact two_bels _ _ _ | exact ball _ _ | exact bel_al (by assumption) | exact bel_drew (by assumption) | exact bel_drew (two_bels _ _ _) | exact three_bels _ _ _ _ | exact bel_al (bel_al (by assumption))); clear hb1)
        go_ret
        exact ⟨rfl, by assumption⟩
      · cases p
        · go_wp2_with (first | (go_at_call 30; with_reducible refine (hS.at).mono ?_; rintro e w1 ⟨rfl, hb1⟩; have := rowD_call hb1 (show rowD _ (w.heap.size) = some (dcs d) by first | assumption | (simp [rowD_alloc, objRow_dcs, rowD_drew, n2, n3, m2, m3]; done) | (simp [rowD_drew, rowD_alloc, n2, n3, m2, m3, objRow_dcs, objRow_lit, rowD_putc, rowD_other, putD_size, okC_dcs, okC_lit, one_b, one_i, one_s, *]; done)); have hbw : Below w.heap.size w w1 := bel_keep hb1 (by first | exact (by assumption) | exact two_bels _ _ _ | exact ball _ _ | exact bel_al (by assumption) | exact bel_drew (by assumption) | exact bel_drew (two_bels _ _ _) | exact three_bels _ _ _ _ | exact bel_al (bel_al (by assumption))); clear hb1) | (go_at_call 16; with_reducible refine (hM.at).mono ?_; rintro e w1 ⟨rfl, hb1⟩; have := rowD_call hb1 (show rowD _ (w.heap.size) = some (dcs d) by first | assumption | (simp [rowD_alloc, objRow_dcs, rowD_drew, n2, n3, m2, m3]; done) | (simp [rowD_drew, rowD_alloc, n2, n3, m2, m3, objRow_dcs, objRow_lit, rowD_putc, rowD_other, putD_size, okC_dcs, okC_lit, one_b, one_i, one_s, *]; done)); have hbw : Below w.heap.size w w1 := bel_keep hb1 (by first | exact (by assumption) | exact two_bels _ _ _ | exact ball _ _ | exact bel_al (by assumption) | exact bel_drew (by assumption) | exact bel_drew (two_bels _ _ _) | exact three_bels _ _ _ _ | exact bel_al (bel_al (by assumption))); clear hb1))
          go_ret
          exact ⟨rfl, by assumption⟩
        · obtain ⟨K, hK⟩ : ∃ K, keysF false es ks = K := ⟨_, rfl⟩
          have hKI := keys_is (cap := cap) (cb := cb) (by omega) (by omega) HCE.out HCK.out HFE.out HFK.out hK
          have HK := Lib.hid hK
          clear hK
          cases K with
          | false =>
            have hdec : decide (60 < (ks.length : Int)) = false := decide_eq_false (by omega)
            go_wp2_with (first | (go_at_call 30; with_reducible refine (hS.at).mono ?_; rintro e w1 ⟨rfl, hb1⟩; have := rowD_call hb1 (show rowD _ (w.heap.size) = some (dcs d) by first | assumption | (simp [rowD_alloc, objRow_dcs, rowD_drew, n2, n3, m2, m3]; done) | (simp [rowD_drew, rowD_alloc, n2, n3, m2, m3, objRow_dcs, objRow_lit, rowD_putc, rowD_other, putD_size, okC_dcs, okC_lit, one_b, one_i, one_s, *]; done)); have hbw : Below w.heap.size w w1 := bel_keep hb1 (by first | exact (by assumption) | exact two_bels _ _ _ | exact ball _ _ | exact bel_al (by assumption) | exact bel_drew (by assumption) | exact bel_drew (two_bels _ _ _) | exact three_bels _ _ _ _ | exact bel_al (bel_al (by assumption))); clear hb1) | (go_at_call 16; with_reducible refine (hM.at).mono ?_; rintro e w1 ⟨rfl, hb1⟩; have := rowD_call hb1 (show rowD _ (w.heap.size) = some (dcs d) by first | assumption | (simp [rowD_alloc, objRow_dcs, rowD_drew, n2, n3, m2, m3]; done) | (simp [rowD_drew, rowD_alloc, n2, n3, m2, m3, objRow_dcs, objRow_lit, rowD_putc, rowD_other, putD_size, okC_dcs, okC_lit, one_b, one_i, one_s, *]; done)); have hbw : Below w.heap.size w w1 := bel_keep hb1 (by first | exact (by assumption) | exact two_bels _ _ _ | exact ball _ _ | exact bel_al (by assumption) | exact bel_drew (by assumption) | exact bel_drew (two_bels _ _ _) | exact three_bels _ _ _ _ | exact bel_al (bel_al (by assumption))); clear hb1) | (go_at_call 26; refine (own0 d _).mono ?_; rintro e w1 ⟨rfl, hb1⟩; have := rowD_call hb1 (show rowD _ (w.heap.size) = some (dcs d) by first | assumption | (simp [rowD_alloc, objRow_dcs, rowD_drew, n2, n3, m2, m3]; done) | (simp [rowD_drew, rowD_alloc, n2, n3, m2, m3, objRow_dcs, objRow_lit, rowD_putc, rowD_other, putD_size, okC_dcs, okC_lit, one_b, one_i, one_s, *]; done)); have hbw : Below w.heap.size w w1 := bel_keep hb1 (by first | exact (by assumption) | exact two_bels _ _ _ | exact ball _ _ | exact bel_al (by assumption) | exact bel_drew (by assumption) | exact bel_drew (two_bels _ _ _) | exact three_bels _ _ _ _ | exact bel_al (bel_al (by assumption))); clear hb1) | (go_at_call 31; refine (def0 d _).mono ?_; rintro e w1 ⟨rfl, hb1⟩; have := rowD_call hb1 (show rowD _ (w.heap.size) = some (dcs d) by first | assumption | (simp [rowD_alloc, objRow_dcs, rowD_drew, n2, n3, m2, m3]; done) | (simp [rowD_drew, rowD_alloc, n2, n3, m2, m3, objRow_dcs, objRow_lit, rowD_putc, rowD_other, putD_size, okC_dcs, okC_lit, one_b, one_i, one_s, *]; done)); have hbw : Below w.heap.size w w1 := bel_keep hb1 (by first | exact (by assumption) | exact two_bels _ _ _ | exact ball _ _ | exact bel_al (by assumption) | exact bel_drew (by assumption) | exact bel_drew (two_bels _ _ _) | exact three_bels _ _ _ _ | exact bel_al (bel_al (by assumption))); clear hb1) | (go_at_call 29; with_reducible refine (hKI.at (by first | exact (by assumption) | exact two_bels _ _ _ | exact ball _ _ | exact bel_al (by assumption) | exact bel_drew (by assumption) | exact bel_drew (two_bels _ _ _) | exact three_bels _ _ _ _ | exact bel_al (bel_al (by assumption)))).mono ?_; rintro e w1 ⟨rfl, hb1⟩; have := rowD_call hb1 (show rowD _ (w.heap.size) = some (dcs d) by first | assumption | (simp [rowD_alloc, objRow_dcs, rowD_drew, n2, n3, m2, m3]; done) | (simp [rowD_drew, rowD_alloc, n2, n3, m2, m3, objRow_dcs, objRow_lit, rowD_putc, rowD_other, putD_size, okC_dcs, okC_lit, one_b, one_i, one_s, *]; done)); have hbw : Below w.heap.size w w1 := bel_keep hb1 (by first | exact (by assumption) | exact two_bels _ _ _ | exact ball _ _ | exact bel_al (by assumption) | exact bel_drew (by assumption) | exact bel_drew (two_bels _ _ _) | exact three_bels _ _ _ _ | exact bel_al (bel_al (by assumption))); clear hb1))
            go_loopw [9, 10] (fun ok i wr => ok = .bool false ∧ ∃ j : Nat, j ≤ es.length ∧ i = .int .i64 j ∧ Below w.heap.size w wr) (fun _ i _ => es.length - (intOf i).toNat)
            case atStart => exact ⟨rfl, 0, Nat.zero_le _, rfl, by assumption⟩
            case round =>
              clear hbw
              obtain ⟨rfl, j, hj, rfl, hbx⟩ := hrel
              by_cases hlt : j < es.length
              · have hlt2 : (j : Int) < es.length := by omega
                go_wp2
                go_roundw
                case rel => exact ⟨rfl, j + 1, by omega, by go_num, by assumption⟩
                case measure => simp [intOf]; omega
              · obtain rfl : j = es.length := by omega
                clear hlt hj
                go_wp2
                go_loopw [9, 11] (fun ok i wr => ok = .bool false ∧ ∃ j : Nat, j ≤ ks.length ∧ i = .int .i64 j ∧ Below w.heap.size w wr) (fun _ i _ => ks.length - (intOf i).toNat)
                case atStart => exact ⟨rfl, 0, Nat.zero_le _, rfl, by assumption⟩
                case round =>
                  clear hbx
                  obtain ⟨rfl, j, hj, rfl, hbx⟩ := hrel
                  by_cases hlt : j < ks.length
                  · obtain ⟨k, hk⟩ : ∃ k, ks[j]? = some k := ⟨ks[j], by simp [hlt]⟩
                    have hlt2 : (j : Int) < ks.length := by omega
                    have HK2 := Lib.hid hk
                    clear hk
                    go_wp2
                    go_loopw [12, 13] (fun t i wr => ∃ m : Nat, m ≤ es.length ∧ i = .int .i64 m ∧ t = .bool (thereF es k m) ∧ Below w.heap.size w wr) (fun _ i _ => es.length - (intOf i).toNat)
                    case atStart => exact ⟨0, Nat.zero_le _, rfl, rfl, by assumption⟩
                    case round =>
                      clear hbx
                      obtain ⟨m, hm, rfl, rfl, hbx⟩ := hrel
                      by_cases hlm : m < es.length
                      · obtain ⟨e, he⟩ : ∃ e, es[m]? = some e := ⟨es[m], by simp [hlm]⟩
                        have hlm2 : (m : Int) < es.length := by omega
                        obtain ⟨b, off, rfl, hb, hat⟩ := (HCE.out.below hbx) m e he
                        obtain ⟨b2, off2, rfl, hb2, c0, c1⟩ := (HCK.out.below hbx) j k HK2.out
                        have d0 := enAt_cell hat 0 _ (ecs_0 e)
                        have d1 := enAt_cell hat 1 _ (ecs_1 e)
                        rw [Nat.add_zero] at d0
                        have HN := Lib.hid (there_next he k)
                        clear he hat hb hb2
                        cases ht : thereF es k m
                        · cases hq : eqK e.ks e.kn k.1 k.2
                          all_goals
                            have hX := HN.out
                            rw [ht, hq] at hX
                            have HX := Lib.hid hX
                            clear hX
                            go_wp2
                            go_region
                            go_wp2
                            go_roundw
                            case rel => exact ⟨m + 1, by omega, by go_num, by rw [HX.out]; rfl, hbx.drew⟩
                            case measure => simp [intOf]; omega
                        · have hX := HN.out
                          rw [ht, Bool.true_or] at hX
                          have HX := Lib.hid hX
                          clear hX
                          go_wp2
                          go_region
                          go_wp2
                          go_roundw
                          case rel => exact ⟨m + 1, by omega, by go_num, by rw [HX.out], hbx.drew⟩
                          case measure => simp [intOf]; omega
                      · obtain rfl : m = es.length := by omega
                        clear hlm hm
                        go_wp2
                        go_roundw
                        case rel => exact ⟨rfl, j + 1, by omega, by go_num, by assumption⟩
                        case measure => simp [intOf]; omega
                  · obtain rfl : j = ks.length := by omega
                    clear hlt hj
                    go_wp2_with (go_at_call 29; with_reducible refine (hKI.at (by assumption)).mono ?_; rintro e w9 ⟨rfl, hb9⟩; have hbw := bel_keep hb9 (by assumption); clear hb9)
                    go_ret
                    exact ⟨by first | rfl | (simp; done), by assumption⟩
          | true =>
            have HT := Lib.hid (keys_true HK.out)
            have hdec : decide (60 < (ks.length : Int)) = false := decide_eq_false (by omega)
            go_wp2_with (first | (go_at_call 30; with_reducible refine (hS.at).mono ?_; rintro e w1 ⟨rfl, hb1⟩; have := rowD_call hb1 (show rowD _ (w.heap.size) = some (dcs d) by first | assumption | (simp [rowD_alloc, objRow_dcs, rowD_drew, n2, n3, m2, m3]; done) | (simp [rowD_drew, rowD_alloc, n2, n3, m2, m3, objRow_dcs, objRow_lit, rowD_putc, rowD_other, putD_size, okC_dcs, okC_lit, one_b, one_i, one_s, *]; done)); have hbw : Below w.heap.size w w1 := bel_keep hb1 (by first | exact (by assumption) | exact two_bels _ _ _ | exact ball _ _ | exact bel_al (by assumption) | exact bel_drew (by assumption) | exact bel_drew (two_bels _ _ _) | exact three_bels _ _ _ _ | exact bel_al (bel_al (by assumption))); clear hb1) | (go_at_call 16; with_reducible refine (hM.at).mono ?_; rintro e w1 ⟨rfl, hb1⟩; have := rowD_call hb1 (show rowD _ (w.heap.size) = some (dcs d) by first | assumption | (simp [rowD_alloc, objRow_dcs, rowD_drew, n2, n3, m2, m3]; done) | (simp [rowD_drew, rowD_alloc, n2, n3, m2, m3, objRow_dcs, objRow_lit, rowD_putc, rowD_other, putD_size, okC_dcs, okC_lit, one_b, one_i, one_s, *]; done)); have hbw : Below w.heap.size w w1 := bel_keep hb1 (by first | exact (by assumption) | exact two_bels _ _ _ | exact ball _ _ | exact bel_al (by assumption) | exact bel_drew (by assumption) | exact bel_drew (two_bels _ _ _) | exact three_bels _ _ _ _ | exact bel_al (bel_al (by assumption))); clear hb1) | (go_at_call 26; refine (own0 d _).mono ?_; rintro e w1 ⟨rfl, hb1⟩; have := rowD_call hb1 (show rowD _ (w.heap.size) = some (dcs d) by first | assumption | (simp [rowD_alloc, objRow_dcs, rowD_drew, n2, n3, m2, m3]; done) | (simp [rowD_drew, rowD_alloc, n2, n3, m2, m3, objRow_dcs, objRow_lit, rowD_putc, rowD_other, putD_size, okC_dcs, okC_lit, one_b, one_i, one_s, *]; done)); have hbw : Below w.heap.size w w1 := bel_keep hb1 (by first | exact (by assumption) | exact two_bels _ _ _ | exact ball _ _ | exact bel_al (by assumption) | exact bel_drew (by assumption) | exact bel_drew (two_bels _ _ _) | exact three_bels _ _ _ _ | exact bel_al (bel_al (by assumption))); clear hb1) | (go_at_call 31; refine (def0 d _).mono ?_; rintro e w1 ⟨rfl, hb1⟩; have := rowD_call hb1 (show rowD _ (w.heap.size) = some (dcs d) by first | assumption | (simp [rowD_alloc, objRow_dcs, rowD_drew, n2, n3, m2, m3]; done) | (simp [rowD_drew, rowD_alloc, n2, n3, m2, m3, objRow_dcs, objRow_lit, rowD_putc, rowD_other, putD_size, okC_dcs, okC_lit, one_b, one_i, one_s, *]; done)); have hbw : Below w.heap.size w w1 := bel_keep hb1 (by first | exact (by assumption) | exact two_bels _ _ _ | exact ball _ _ | exact bel_al (by assumption) | exact bel_drew (by assumption) | exact bel_drew (two_bels _ _ _) | exact three_bels _ _ _ _ | exact bel_al (bel_al (by assumption))); clear hb1) | (go_at_call 29; with_reducible refine (hKI.at (by first | exact (by assumption) | exact two_bels _ _ _ | exact ball _ _ | exact bel_al (by assumption) | exact bel_drew (by assumption) | exact bel_drew (two_bels _ _ _) | exact three_bels _ _ _ _ | exact bel_al (bel_al (by assumption)))).mono ?_; rintro e w1 ⟨rfl, hb1⟩; have := rowD_call hb1 (show rowD _ (w.heap.size) = some (dcs d) by first | assumption | (simp [rowD_alloc, objRow_dcs, rowD_drew, n2, n3, m2, m3]; done) | (simp [rowD_drew, rowD_alloc, n2, n3, m2, m3, objRow_dcs, objRow_lit, rowD_putc, rowD_other, putD_size, okC_dcs, okC_lit, one_b, one_i, one_s, *]; done)); have hbw : Below w.heap.size w w1 := bel_keep hb1 (by first | exact (by assumption) | exact two_bels _ _ _ | exact ball _ _ | exact bel_al (by assumption) | exact bel_drew (by assumption) | exact bel_drew (two_bels _ _ _) | exact three_bels _ _ _ _ | exact bel_al (bel_al (by assumption))); clear hb1))
            go_loopw [9, 10] (fun ok i wr => ok = .bool true ∧ ∃ j : Nat, j ≤ es.length ∧ i = .int .i64 j ∧ Below w.heap.size w wr) (fun _ i _ => es.length - (intOf i).toNat)
            case atStart => exact ⟨rfl, 0, Nat.zero_le _, rfl, by assumption⟩
            case round =>
              clear hbw
              obtain ⟨rfl, j, hj, rfl, hbx⟩ := hrel
              by_cases hlt : j < es.length
              · obtain ⟨e, he⟩ : ∃ e, es[j]? = some e := ⟨es[j], by simp [hlt]⟩
                have hlt2 : (j : Int) < es.length := by omega
                obtain ⟨b, off, rfl, hb, hat⟩ := (HCE.out.below hbx) j e he
                have d0 := enAt_cell hat 0 _ (ecs_0 e)
                have d1 := enAt_cell hat 1 _ (ecs_1 e)
                rw [Nat.add_zero] at d0
                have hKD : KeyedIs w (.slice bo ks.length cb) (e.ks, e.kn) true := keyed_is (ekey e) (by omega) HCK.out (HT.out.1 e (List.mem_of_getElem? he))
                clear he hat hb
                go_wp2_with (go_at_call 28; with_reducible refine (hKD.at (by assumption)).mono ?_; rintro y w9 ⟨rfl, hb9⟩; have hbw := bel_keep hb9 (by assumption); clear hb9)
                go_roundw
                case rel => exact ⟨rfl, j + 1, by omega, by go_num, by assumption⟩
                case measure => simp [intOf]; omega
              · obtain rfl : j = es.length := by omega
                clear hlt hj
                go_wp2
                go_loopw [9, 11] (fun ok i wr => ok = .bool true ∧ ∃ j : Nat, j ≤ ks.length ∧ i = .int .i64 j ∧ Below w.heap.size w wr) (fun _ i _ => ks.length - (intOf i).toNat)
                case atStart => exact ⟨rfl, 0, Nat.zero_le _, rfl, by assumption⟩
                case round =>
                  clear hbx
                  obtain ⟨rfl, j, hj, rfl, hbx⟩ := hrel
                  by_cases hlt : j < ks.length
                  · obtain ⟨k, hk⟩ : ∃ k, ks[j]? = some k := ⟨ks[j], by simp [hlt]⟩
                    have hlt2 : (j : Int) < ks.length := by omega
                    have HK2 := Lib.hid hk
                    clear hk
                    go_wp2
                    go_loopw [12, 13] (fun t i wr => ∃ m : Nat, m ≤ es.length ∧ i = .int .i64 m ∧ t = .bool (thereF es k m) ∧ Below w.heap.size w wr) (fun _ i _ => es.length - (intOf i).toNat)
                    case atStart => exact ⟨0, Nat.zero_le _, rfl, rfl, by assumption⟩
                    case round =>
                      clear hbx
                      obtain ⟨m, hm, rfl, rfl, hbx⟩ := hrel
                      by_cases hlm : m < es.length
                      · obtain ⟨e, he⟩ : ∃ e, es[m]? = some e := ⟨es[m], by simp [hlm]⟩
                        have hlm2 : (m : Int) < es.length := by omega
                        obtain ⟨b, off, rfl, hb, hat⟩ := (HCE.out.below hbx) m e he
                        obtain ⟨b2, off2, rfl, hb2, c0, c1⟩ := (HCK.out.below hbx) j k HK2.out
                        have d0 := enAt_cell hat 0 _ (ecs_0 e)
                        have d1 := enAt_cell hat 1 _ (ecs_1 e)
                        rw [Nat.add_zero] at d0
                        have HN := Lib.hid (there_next he k)
                        clear he hat hb hb2
                        cases ht : thereF es k m
                        · cases hq : eqK e.ks e.kn k.1 k.2
                          all_goals
                            have hX := HN.out
                            rw [ht, hq] at hX
                            have HX := Lib.hid hX
                            clear hX
                            go_wp2
                            go_region
                            go_wp2
                            go_roundw
                            case rel => exact ⟨m + 1, by omega, by go_num, by rw [HX.out]; rfl, hbx.drew⟩
                            case measure => simp [intOf]; omega
                        · have hX := HN.out
                          rw [ht, Bool.true_or] at hX
                          have HX := Lib.hid hX
                          clear hX
                          go_wp2
                          go_region
                          go_wp2
                          go_roundw
                          case rel => exact ⟨m + 1, by omega, by go_num, by rw [HX.out], hbx.drew⟩
                          case measure => simp [intOf]; omega
                      · obtain rfl : m = es.length := by omega
                        clear hlm hm
                        have hth : thereF es k es.length = true := there_all (HT.out.2 k (List.mem_of_getElem? HK2.out))
                        go_wp2
                        go_roundw
                        case rel => exact ⟨rfl, j + 1, by omega, by go_num, by assumption⟩
                        case measure => simp [intOf]; omega
                  · obtain rfl : j = ks.length := by omega
                    clear hlt hj
                    go_wp2_with (go_at_call 29; with_reducible refine (hKI.at (by assumption)).mono ?_; rintro e w9 ⟨rfl, hb9⟩; have hbw := bel_keep hb9 (by assumption); clear hb9)
                    go_ret
                    exact ⟨by first | rfl | (simp; done), by assumption⟩
end Go.Proofs.Ytlpfdhmifcmhaaa.Des
