/-
  Texts of this seat in build order: PgRightW, EyStk.
-/
import Derived.Test.YtinoaajohkafmaaGreatMw13
import Derived.Test.YtinoaajohkafmaaGreatMw09
/-
  The printer's Right: the walk.
-/
namespace Go.Proofs.YtinoaajohkafmaaGreat.Pr
open Go Go.RowKit Go.Proofs.YtinoaajohkafmaaGreat.Pa Go.Proofs.YtinoaajohkafmaaGreat.Uni
open Go.Proofs.YtinoaajohkafmaaGreat.Lx
set_option linter.unusedVariables false
set_option linter.unusedSimpArgs false
theorem infoSp2 : (Tryz.prog.info? 58).map (fun i => (i.zero, i.size)) = some (some (.agg zerS), 2) := by kernel_rfl
theorem run_alS (w : World) : (Al 58).run Tryz.prog w = .ok (ptr w.heap.size) (w.alloc (.cells zerS 58)) := run_al infoSp2 w
theorem run_stSg (w : World) (b o : Nat) (p : Int) : (Lx.St 58 (.pointer (some ⟨w.heap.size, 0, none⟩)) (.agg (scs b o p))).run Tryz.prog (w.alloc (.cells zerS 58)) = .ok () (w.alloc (.cells (scs b o p) 58)) := by
  have h : (Lx.St 58 (.pointer (some ⟨w.heap.size, 0, none⟩)) (.agg (scs b o p))).run Tryz.prog (w.alloc (.cells zerS 58)) = .ok () ((w.alloc (.cells zerS 58)).setRow w.heap.size (scs b o p)) := run_st_row (Blk.new w zerS _) (by exact sizeS) (by rfl) (scs_one _ _ _)
  rw [h, setRow_new]
theorem run_ldSm {w : World} {b o : Nat} {s : Spt} (h : w.rangeAt b o (spc s)) : (Ld 58 (.pointer (some ⟨b, o, none⟩))).run Tryz.prog w = .ok (.agg (scs s.b s.o (s.p.toNat : Int))) w := by
  have := run_loadAt_mid (P := Tryz.prog) w b o 58 (spc s) _ h Tryz.underlying58 rfl sizeS
  simpa [Ld, spc] using this
attribute [local go_sem ↓] ldK stK alK bdK bsK ldN stN alN bdN bsN ldS stS alS bdS bsP
attribute [local irreducible] kcs ncs ncells scs zerS
attribute [local go_sem] run_bdS run_bsP run_alS run_stSg
theorem spc_range {w : World} {g q : Nat} {s : Spt} (h : ∀ j u, (spc s)[j]? = some u → w.cell? ⟨g, q + j, none⟩ = some u) : w.rangeAt g q (spc s) := h
theorem kids_at {w : World} {b o : Nat} {k n : Int} {tx : ByteArray} {ns : List ByteArray} {ks : List Tree} {N : Nd} (h : TAt w b o (.mk k n tx ns ks) N) : ∃ b2 o2, (0 < ks.length → N.kids.a = some ⟨b2, o2, none⟩) ∧ ∀ j t, ks[j]? = some t → ∃ x, TAt w b2 (o2 + j * 5) t x := by
  cases ks with
  | nil => exact ⟨0, 0, fun h => by simp at h, fun j t h => by simp at h⟩
  | cons a l =>
    obtain ⟨b2, o2, x, q1, q2, q3, q4, q5⟩ := h.kid (i := 0) rfl
    refine ⟨b2, o2, fun _ => q1, fun j t hj => ?_⟩
    obtain ⟨b3, o3, y, r1, r2, r3, r4, r5⟩ := h.kid hj
    rw [q1] at r1
    cases r1
    exact ⟨y, r5⟩
theorem places_plc (p : UInt8) (k n : Int) (t : By) (nk : Nat) (fk : Int) : ∀ c ∈ placesB p k n t nk fk, Plc c := fun c hc => by
  unfold placesB at hc
  rw [List.mem_filter] at hc
  exact plc_lay p k n t nk fk c hc.1 hc.2
structure RI (K D : Nat) (wB wr : World) (R : Bool) (v : Value) (st : List Ent) : Prop where
  bel : Below wB.heap.size wB wr
  own : Spots wB.heap.size wr v (st.map fun e => e.s)
  stk : Stk K D wB st
  eq : R = allE st
set_option maxRecDepth 100000 in
set_option maxHeartbeats 8000000 in
theorem pright_any {t : Tree} {N : Nd} {w : World} {K D : Nat} (hr : Rd w t N) (hs : Str t) (hb : Bnd K D t) (hK : K ≤ 100000) (hKD : K * D ≤ 900000000) : Calls Tryz.prog 13 #[.agg (ncs N)] w (PostR w (.bool (okT 80 t))) := by
  obtain ⟨wB, hwB⟩ : ∃ wB, w.alloc (.cells (ncs N) 25) = wB := ⟨_, rfl⟩
  have hbw : Below w.heap.size w wB := by rw [← hwB]; exact bel1
  have hsz : wB.heap.size = w.heap.size + 1 := by rw [← hwB]; simp
  have hT : TAt wB w.heap.size 0 t N := by
    have hn := Blk.new w (ncs N) 25
    rw [hwB] at hn
    refine ⟨⟨by omega, fun j v hv => ?_⟩, hr.below hbw⟩
    rw [Nat.zero_add, hn.cell j]
    simpa using hv
  obtain ⟨R, hR⟩ : ∃ R, okT 80 t = R := ⟨_, rfl⟩
  rw [hR]
  have hst : ∀ W v, Below wB.heap.size wB W → Spots wB.heap.size W v [⟨w.heap.size, 0, 80⟩] → ∃ st, RI K D wB W R v st ∧ szE st = t.sz := fun W v h1 h2 =>
    ⟨[⟨⟨w.heap.size, 0, 80⟩, t, N, D⟩], ⟨h1, h2, fun q e he => by
      cases q with
      | zero =>
        simp at he
        subst he
        exact ⟨.inl rfl, hT, hb, hs, Nat.le_refl _, by simp⟩
      | succ q => simp at he, by unfold allE; simp [hR]⟩, by unfold szE; simp⟩
  have HST := Lib.hid hst
  have HBW := Lib.hid hbw
  have HSZ := Lib.hid hsz
  have HK := Lib.hid hK
  have HKD := Lib.hid hKD
  have HWB := Lib.hid hwB
  obtain ⟨S0, hS0⟩ : ∃ S0, t.sz = S0 := ⟨_, rfl⟩
  rw [hS0] at HST
  clear hr hs hb hK hKD hbw hsz hT hR hst hS0 hwB
  go_enter Tryz.func13, Tryz.ntmps13
  go_wp2
  rw [HWB.out]
  go_loopg [3] S0 (fun g v wr => ∃ st, RI K D wB wr R v st ∧ szE st = g)
  case atStart =>
    refine HST.out _ _ bel1 ?_
    rw [← HSZ.out]
    refine ⟨spcs_len _, .inr ⟨wB.heap.size, 1, _, rfl, Nat.le_refl _, heap_alloc_new wB _, Nat.le_refl _, by unfold maxLen; omega, scs_size _ _ _, ?_⟩⟩
    rw [List.take_of_length_le (by rw [scs_len]; simp)]
    unfold spcs spc
    simp
  case round =>
    obtain ⟨st, hI, hg⟩ := hrel
    rcases List.eq_nil_or_concat st with rfl | ⟨st0, e, rfl⟩
    · obtain ⟨a0, c0, rfl⟩ := hI.own.shape
      have hE : R = true := hI.eq
      have HE := Lib.hid hE
      have HI := Lib.hid hI
      clear hI hE hg
      go_wp2
      go_ret
      exact ⟨by rw [HE.out]; rfl, HBW.out.trans (HI.out.bel.mono HBW.out.size)⟩
    · rw [List.concat_eq_append] at hI hg
      have hown := hI.own
      rw [List.map_append] at hown
      obtain ⟨gl, c, rfl, hqc, hcells, hcut⟩ := Spots.last hown
      rw [List.length_map] at hqc hcells hcut ⊢
      obtain ⟨hst0, hG⟩ := hI.stk.head
      have hbel := hI.bel
      obtain ⟨⟨b, o, p⟩, ⟨k, n, tx, ns, ks⟩, N0, d0⟩ := e
      obtain ⟨d, rfl⟩ : ∃ d, d0 = d + 1 := by
        have := hG.bnd
        cases d0 with
        | zero => unfold Bnd at this; exact this.elim
        | succ d => exact ⟨d, rfl⟩
      have hbnd : ks.length ≤ K ∧ ∀ t ∈ ks, Bnd K d t := by have := hG.bnd; unfold Bnd at this; exact this
      have hstr := hG.str.of
      have hR : R = (allE st0 && ((kindB p k && (textB p k tx && (namesB p k ns && (numB k n && elseB k ks)))) && okKs (placesB p k n tx.data.toList ks.length (headK ks)) ks)) := by
        rw [hI.eq]
        unfold allE
        rw [List.all_append]
        simp only [List.all_cons, List.all_nil, Bool.and_true]
        congr 1
      have hq9 : st0.length ≤ 900000001 := by
        have h1 := hG.ix
        have h2 : K * (D - (d + 1)) ≤ K * D := Nat.mul_le_mul_left _ (Nat.sub_le _ _)
        have h3 := HKD.out
        simp only at h1
        omega
      obtain ⟨q, hq⟩ : ∃ q, st0.length = q := ⟨_, rfl⟩
      have hP : Plc p := hG.pl
      have hat : TAt wB b o (.mk k n tx ns ks) N0 := hG.at_
      have hl := run_ldSm (spc_range hcells)
      have hk0 : N0.kind = k := rd_kind hat.r
      have ck := fun W (hb : Below wB.heap.size wB W) => kind_any hP (hat.below hb).k hk0
      have cn := fun W (hb : Below wB.heap.size wB W) => names_any (p := p) (hat.below hb) hstr.2.1
      have cm := fun W (hb : Below wB.heap.size wB W) => num_anyP (p := p) (n := n) (hat.below hb).k hk0 (rd_num hat.r)
      have ce := fun W (hb : Below wB.heap.size wB W) => else_any (p := (p.toNat : Int)) (hat.below hb)
      have ct := fun (h1 : kindB p k = true) W (hb : Below wB.heap.size wB W) => text_any (tx := tx) hP (hat.below hb).k hk0 (rd_text hat.r) hstr.1 h1
      have hbs := Blk.new wr (scs b o (p.toNat : Int)) 58
      have lds := run_ldS hbs
      have hcut1 := hcut.below (bel1 (o := .cells (scs b o (p.toNat : Int)) 58))
      have HB : Hid (Below wB.heap.size wB (wr.alloc (.cells (scs b o (p.toNat : Int)) 58))) := Lib.hid (hbel.trans ((bel1 (o := .cells (scs b o (p.toNat : Int)) 58)).mono hbel.size))
      rw [hq] at hqc hcut1 hq9 hl ⊢
      have hqi : (q : Int) ≤ 900000001 := by omega
      have hc0 : ¬ c = 0 := by omega
      have HBS := Lib.hid hbs
      have HCUT := Lib.hid hcut1
      have HI := Lib.hid hI
      have HGD := Lib.hid hG
      have HST0 := Lib.hid hst0
      have HBN := Lib.hid hbnd
      have HSTR := Lib.hid hstr
      have HAT := Lib.hid hat
      have HQ := Lib.hid hq
      have HG := Lib.hid hg
      have HPP := Lib.hid hP
      clear hI hg hown hcells hcut hst0 hG hbel hbnd hstr hat hk0 hbs hcut1 hq hq9
      cases h1 : kindB p k with
      | false =>
        rw [h1] at ck hR
        have hE : R = false := by rw [hR]; simp
        have HE := Lib.hid hE
        clear hR hE
        go_wp2_with (first | (go_at_call 21; (with_reducible refine (ck _ HB.out).mono ?_); intro e w2 hp; obtain ⟨rfl, hb⟩ := hp; have HB := Lib.hid (HB.out.trans (hb.mono HB.out.size)); have HBS := Lib.hid (HBS.out.call hb); have lds := run_ldS HBS.out; have HCUT := Lib.hid (HCUT.out.below hb); clear hb) | (go_at_call 22; (with_reducible refine (ct2 _ HB.out).mono ?_); intro e w2 hp; obtain ⟨rfl, hb⟩ := hp; have HB := Lib.hid (HB.out.trans (hb.mono HB.out.size)); have HBS := Lib.hid (HBS.out.call hb); have lds := run_ldS HBS.out; have HCUT := Lib.hid (HCUT.out.below hb); clear hb) | (go_at_call 23; (with_reducible refine (cn _ HB.out).mono ?_); intro e w2 hp; obtain ⟨rfl, hb⟩ := hp; have HB := Lib.hid (HB.out.trans (hb.mono HB.out.size)); have HBS := Lib.hid (HBS.out.call hb); have lds := run_ldS HBS.out; have HCUT := Lib.hid (HCUT.out.below hb); clear hb) | (go_at_call 24; (with_reducible refine (cm _ HB.out).mono ?_); intro e w2 hp; obtain ⟨rfl, hb⟩ := hp; have HB := Lib.hid (HB.out.trans (hb.mono HB.out.size)); have HBS := Lib.hid (HBS.out.call hb); have lds := run_ldS HBS.out; have HCUT := Lib.hid (HCUT.out.below hb); clear hb) | (go_at_call 25; (with_reducible refine (ce _ HB.out).mono ?_); intro e w2 hp; obtain ⟨rfl, hb⟩ := hp; have HB := Lib.hid (HB.out.trans (hb.mono HB.out.size)); have HBS := Lib.hid (HBS.out.call hb); have lds := run_ldS HBS.out; have HCUT := Lib.hid (HCUT.out.below hb); clear hb))
        go_ret
        exact ⟨by rw [HE.out]; rfl, HBW.out.trans (HB.out.mono HBW.out.size)⟩
      | true =>
        rw [h1] at ck hR
        have ct2 := ct h1
        cases h2 : textB p k tx with
        | false =>
          rw [h2] at ct2 hR
          have hE : R = false := by rw [hR]; simp
          have HE := Lib.hid hE
          clear hR hE
          go_wp2_with (first | (go_at_call 21; (with_reducible refine (ck _ HB.out).mono ?_); intro e w2 hp; obtain ⟨rfl, hb⟩ := hp; have HB := Lib.hid (HB.out.trans (hb.mono HB.out.size)); have HBS := Lib.hid (HBS.out.call hb); have lds := run_ldS HBS.out; have HCUT := Lib.hid (HCUT.out.below hb); clear hb) | (go_at_call 22; (with_reducible refine (ct2 _ HB.out).mono ?_); intro e w2 hp; obtain ⟨rfl, hb⟩ := hp; have HB := Lib.hid (HB.out.trans (hb.mono HB.out.size)); have HBS := Lib.hid (HBS.out.call hb); have lds := run_ldS HBS.out; have HCUT := Lib.hid (HCUT.out.below hb); clear hb) | (go_at_call 23; (with_reducible refine (cn _ HB.out).mono ?_); intro e w2 hp; obtain ⟨rfl, hb⟩ := hp; have HB := Lib.hid (HB.out.trans (hb.mono HB.out.size)); have HBS := Lib.hid (HBS.out.call hb); have lds := run_ldS HBS.out; have HCUT := Lib.hid (HCUT.out.below hb); clear hb) | (go_at_call 24; (with_reducible refine (cm _ HB.out).mono ?_); intro e w2 hp; obtain ⟨rfl, hb⟩ := hp; have HB := Lib.hid (HB.out.trans (hb.mono HB.out.size)); have HBS := Lib.hid (HBS.out.call hb); have lds := run_ldS HBS.out; have HCUT := Lib.hid (HCUT.out.below hb); clear hb) | (go_at_call 25; (with_reducible refine (ce _ HB.out).mono ?_); intro e w2 hp; obtain ⟨rfl, hb⟩ := hp; have HB := Lib.hid (HB.out.trans (hb.mono HB.out.size)); have HBS := Lib.hid (HBS.out.call hb); have lds := run_ldS HBS.out; have HCUT := Lib.hid (HCUT.out.below hb); clear hb))
          go_ret
          exact ⟨by rw [HE.out]; rfl, HBW.out.trans (HB.out.mono HBW.out.size)⟩
        | true =>
          rw [h2] at ct2 hR
          cases h3 : namesB p k ns with
          | false =>
            rw [h3] at cn hR
            have hE : R = false := by rw [hR]; simp
            have HE := Lib.hid hE
            clear hR hE
            go_wp2_with (first | (go_at_call 21; (with_reducible refine (ck _ HB.out).mono ?_); intro e w2 hp; obtain ⟨rfl, hb⟩ := hp; have HB := Lib.hid (HB.out.trans (hb.mono HB.out.size)); have HBS := Lib.hid (HBS.out.call hb); have lds := run_ldS HBS.out; have HCUT := Lib.hid (HCUT.out.below hb); clear hb) | (go_at_call 22; (with_reducible refine (ct2 _ HB.out).mono ?_); intro e w2 hp; obtain ⟨rfl, hb⟩ := hp; have HB := Lib.hid (HB.out.trans (hb.mono HB.out.size)); have HBS := Lib.hid (HBS.out.call hb); have lds := run_ldS HBS.out; have HCUT := Lib.hid (HCUT.out.below hb); clear hb) | (go_at_call 23; (with_reducible refine (cn _ HB.out).mono ?_); intro e w2 hp; obtain ⟨rfl, hb⟩ := hp; have HB := Lib.hid (HB.out.trans (hb.mono HB.out.size)); have HBS := Lib.hid (HBS.out.call hb); have lds := run_ldS HBS.out; have HCUT := Lib.hid (HCUT.out.below hb); clear hb) | (go_at_call 24; (with_reducible refine (cm _ HB.out).mono ?_); intro e w2 hp; obtain ⟨rfl, hb⟩ := hp; have HB := Lib.hid (HB.out.trans (hb.mono HB.out.size)); have HBS := Lib.hid (HBS.out.call hb); have lds := run_ldS HBS.out; have HCUT := Lib.hid (HCUT.out.below hb); clear hb) | (go_at_call 25; (with_reducible refine (ce _ HB.out).mono ?_); intro e w2 hp; obtain ⟨rfl, hb⟩ := hp; have HB := Lib.hid (HB.out.trans (hb.mono HB.out.size)); have HBS := Lib.hid (HBS.out.call hb); have lds := run_ldS HBS.out; have HCUT := Lib.hid (HCUT.out.below hb); clear hb))
            go_ret
            exact ⟨by rw [HE.out]; rfl, HBW.out.trans (HB.out.mono HBW.out.size)⟩
          | true =>
            rw [h3] at cn hR
            cases h4 : numB k n with
            | false =>
              rw [h4] at cm hR
              have hE : R = false := by rw [hR]; simp
              have HE := Lib.hid hE
              clear hR hE
              go_wp2_with (first | (go_at_call 21; (with_reducible refine (ck _ HB.out).mono ?_); intro e w2 hp; obtain ⟨rfl, hb⟩ := hp; have HB := Lib.hid (HB.out.trans (hb.mono HB.out.size)); have HBS := Lib.hid (HBS.out.call hb); have lds := run_ldS HBS.out; have HCUT := Lib.hid (HCUT.out.below hb); clear hb) | (go_at_call 22; (with_reducible refine (ct2 _ HB.out).mono ?_); intro e w2 hp; obtain ⟨rfl, hb⟩ := hp; have HB := Lib.hid (HB.out.trans (hb.mono HB.out.size)); have HBS := Lib.hid (HBS.out.call hb); have lds := run_ldS HBS.out; have HCUT := Lib.hid (HCUT.out.below hb); clear hb) | (go_at_call 23; (with_reducible refine (cn _ HB.out).mono ?_); intro e w2 hp; obtain ⟨rfl, hb⟩ := hp; have HB := Lib.hid (HB.out.trans (hb.mono HB.out.size)); have HBS := Lib.hid (HBS.out.call hb); have lds := run_ldS HBS.out; have HCUT := Lib.hid (HCUT.out.below hb); clear hb) | (go_at_call 24; (with_reducible refine (cm _ HB.out).mono ?_); intro e w2 hp; obtain ⟨rfl, hb⟩ := hp; have HB := Lib.hid (HB.out.trans (hb.mono HB.out.size)); have HBS := Lib.hid (HBS.out.call hb); have lds := run_ldS HBS.out; have HCUT := Lib.hid (HCUT.out.below hb); clear hb) | (go_at_call 25; (with_reducible refine (ce _ HB.out).mono ?_); intro e w2 hp; obtain ⟨rfl, hb⟩ := hp; have HB := Lib.hid (HB.out.trans (hb.mono HB.out.size)); have HBS := Lib.hid (HBS.out.call hb); have lds := run_ldS HBS.out; have HCUT := Lib.hid (HCUT.out.below hb); clear hb))
              go_ret
              exact ⟨by rw [HE.out]; rfl, HBW.out.trans (HB.out.mono HBW.out.size)⟩
            | true =>
              rw [h4] at cm hR
              cases h5 : elseB k ks with
              | false =>
                rw [h5] at ce hR
                have hE : R = false := by rw [hR]; simp
                have HE := Lib.hid hE
                clear hR hE
                go_wp2_with (first | (go_at_call 21; (with_reducible refine (ck _ HB.out).mono ?_); intro e w2 hp; obtain ⟨rfl, hb⟩ := hp; have HB := Lib.hid (HB.out.trans (hb.mono HB.out.size)); have HBS := Lib.hid (HBS.out.call hb); have lds := run_ldS HBS.out; have HCUT := Lib.hid (HCUT.out.below hb); clear hb) | (go_at_call 22; (with_reducible refine (ct2 _ HB.out).mono ?_); intro e w2 hp; obtain ⟨rfl, hb⟩ := hp; have HB := Lib.hid (HB.out.trans (hb.mono HB.out.size)); have HBS := Lib.hid (HBS.out.call hb); have lds := run_ldS HBS.out; have HCUT := Lib.hid (HCUT.out.below hb); clear hb) | (go_at_call 23; (with_reducible refine (cn _ HB.out).mono ?_); intro e w2 hp; obtain ⟨rfl, hb⟩ := hp; have HB := Lib.hid (HB.out.trans (hb.mono HB.out.size)); have HBS := Lib.hid (HBS.out.call hb); have lds := run_ldS HBS.out; have HCUT := Lib.hid (HCUT.out.below hb); clear hb) | (go_at_call 24; (with_reducible refine (cm _ HB.out).mono ?_); intro e w2 hp; obtain ⟨rfl, hb⟩ := hp; have HB := Lib.hid (HB.out.trans (hb.mono HB.out.size)); have HBS := Lib.hid (HBS.out.call hb); have lds := run_ldS HBS.out; have HCUT := Lib.hid (HCUT.out.below hb); clear hb) | (go_at_call 25; (with_reducible refine (ce _ HB.out).mono ?_); intro e w2 hp; obtain ⟨rfl, hb⟩ := hp; have HB := Lib.hid (HB.out.trans (hb.mono HB.out.size)); have HBS := Lib.hid (HBS.out.call hb); have lds := run_ldS HBS.out; have HCUT := Lib.hid (HCUT.out.below hb); clear hb))
                go_ret
                exact ⟨by rw [HE.out]; rfl, HBW.out.trans (HB.out.mono HBW.out.size)⟩
              | true =>
                rw [h5] at ce hR
                obtain ⟨b2, o2, hka, hkd⟩ := kids_at HAT.out
                have hn38 : k = 38 → 1 ≤ n ∧ n ≤ 3 := fun h => by
                  rw [h] at h4
                  unfold numB at h4
                  rw [if_neg (by decide), if_pos rfl] at h4
                  exact of_decide_eq_true h4
                have hp14 : k = 14 → p = 65 ∨ p = 70 ∨ p = 71 ∨ p = 72 := fun h => place14 HPP.out (h ▸ h1)
                have hl100 : ks.length ≤ 100000 := by have h1 := HBN.out.1; have h2 := HK.out; omega
                have hqq : (st0.map fun e => e.s).length ≤ 1000000000 := by rw [List.length_map, HQ.out]; omega
                obtain ⟨P, hPE⟩ : ∃ P, placesB p k n tx.data.toList ks.length (headK ks) = P := ⟨_, rfl⟩
                have hplc : ∀ c ∈ P, Plc c := by rw [← hPE]; exact places_plc _ _ _ _ _ _
                have capp := fun W v (hb : Below wB.heap.size wB W) (hv : Spots wB.heap.size W v (st0.map fun e => e.s)) => app_any hb HAT.out hp14 hl100 hn38 hv hqq hka
                rw [hPE] at hR capp
                by_cases hcmp : P.length = ks.length
                · have capp2 : ∀ W v, Below wB.heap.size wB W → Spots wB.heap.size W v (st0.map fun e => e.s) → Calls Tryz.prog 26 #[.agg (scs b o (p.toNat : Int)), v] W fun e w' => Below wB.heap.size wB w' ∧ ∃ v', e = .returned (.tuple #[v', .bool true]) ∧ Spots wB.heap.size w' v' ((st0.map fun e => e.s) ++ newS b2 o2 0 P) := fun W v hb hv => by
                    refine (capp W v hb hv).mono ?_
                    rintro e w' ⟨h1, ⟨h2, v', h3, h4⟩ | ⟨h2, _⟩⟩
                    · exact ⟨h1, v', h3, h4⟩
                    · exact absurd hcmp h2
                  obtain ⟨es, g1, g2, g3, g4, g5⟩ := push_all (K := K) (D := D) (wB := wB) (d := d) (b2 := b2) (o2 := o2) 0 P ks hcmp hplc (fun j t hj => by rw [Nat.zero_add]; exact hkd j t hj) (fun t ht => ⟨HBN.out.2 t ht, by obtain ⟨i, hi, rfl⟩ := List.getElem_of_mem ht; exact HSTR.out.2.2.at (List.getElem?_eq_getElem hi)⟩)
                  have hnew : ∀ w' v', Below wB.heap.size wB w' → Spots wB.heap.size w' v' ((st0.map fun e => e.s) ++ newS b2 o2 0 P) → ∃ st, RI K D wB w' R v' st ∧ szE st < gk := fun w' v' h1 h2 => by
                    refine ⟨st0 ++ es, ⟨h1, by rw [List.map_append, g1]; exact h2, fun q2 e2 he2 => ?_, ?_⟩, ?_⟩
                    · by_cases hq2 : q2 < st0.length
                      · rw [List.getElem?_append_left hq2] at he2
                        exact HST0.out q2 e2 he2
                      · rw [List.getElem?_append_right (by omega)] at he2
                        obtain ⟨a1, a2, a3, a4, a5⟩ := g5 _ _ he2
                        have hx := (List.getElem?_eq_some_iff.1 he2).1
                        have i1 := HGD.out.ix
                        have i2 := HGD.out.le
                        have i3 := HBN.out.1
                        simp only at i1 i2
                        refine ⟨a1, a2, a3, a4, by rw [a5]; omega, ?_⟩
                        rw [a5, show D - d = (D - (d + 1)) + 1 from by omega, Nat.mul_succ]
                        omega
                    · rw [hR]
                      unfold allE
                      rw [List.all_append]
                      have g2' : (es.all fun e => okT e.s.p e.t) = okKs P ks := g2
                      rw [g2']
                      simp
                    · rw [← HG.out]
                      unfold szE at g3 ⊢
                      rw [List.map_append, List.map_append, List.sum_append, List.sum_append, g3]
                      simp [Tree.sz]
                  have HNEW := Lib.hid hnew
                  clear hR capp hka hkd hn38 hp14 hl100 hqq hPE hplc hcmp g1 g2 g3 g4 g5 hnew
                  go_wp2_with (first | (go_at_call 21; (with_reducible refine (ck _ HB.out).mono ?_); intro e w2 hp; obtain ⟨rfl, hb⟩ := hp; have HB := Lib.hid (HB.out.trans (hb.mono HB.out.size)); have HBS := Lib.hid (HBS.out.call hb); have lds := run_ldS HBS.out; have HCUT := Lib.hid (HCUT.out.below hb); clear hb) | (go_at_call 22; (with_reducible refine (ct2 _ HB.out).mono ?_); intro e w2 hp; obtain ⟨rfl, hb⟩ := hp; have HB := Lib.hid (HB.out.trans (hb.mono HB.out.size)); have HBS := Lib.hid (HBS.out.call hb); have lds := run_ldS HBS.out; have HCUT := Lib.hid (HCUT.out.below hb); clear hb) | (go_at_call 23; (with_reducible refine (cn _ HB.out).mono ?_); intro e w2 hp; obtain ⟨rfl, hb⟩ := hp; have HB := Lib.hid (HB.out.trans (hb.mono HB.out.size)); have HBS := Lib.hid (HBS.out.call hb); have lds := run_ldS HBS.out; have HCUT := Lib.hid (HCUT.out.below hb); clear hb) | (go_at_call 24; (with_reducible refine (cm _ HB.out).mono ?_); intro e w2 hp; obtain ⟨rfl, hb⟩ := hp; have HB := Lib.hid (HB.out.trans (hb.mono HB.out.size)); have HBS := Lib.hid (HBS.out.call hb); have lds := run_ldS HBS.out; have HCUT := Lib.hid (HCUT.out.below hb); clear hb) | (go_at_call 25; (with_reducible refine (ce _ HB.out).mono ?_); intro e w2 hp; obtain ⟨rfl, hb⟩ := hp; have HB := Lib.hid (HB.out.trans (hb.mono HB.out.size)); have HBS := Lib.hid (HBS.out.call hb); have lds := run_ldS HBS.out; have HCUT := Lib.hid (HCUT.out.below hb); clear hb) | (go_at_call 26; (with_reducible refine (capp2 _ _ HB.out HCUT.out).mono ?_); rintro e w9 ⟨hb9, v9, rfl, ho9⟩; have HB9 := Lib.hid hb9; have HO9 := Lib.hid ho9; clear hb9 ho9))
                  obtain ⟨st9, hri, hsz9⟩ := HNEW.out _ _ HB9.out HO9.out
                  have HRI := Lib.hid hri
                  have HSZ9 := Lib.hid hsz9
                  clear hri hsz9
                  go_roundg (szE st9)
                  case measure => exact HSZ9.out
                  case rel => exact ⟨st9, HRI.out, rfl⟩
                · have capp2 : ∀ W v, Below wB.heap.size wB W → Spots wB.heap.size W v (st0.map fun e => e.s) → Calls Tryz.prog 26 #[.agg (scs b o (p.toNat : Int)), v] W fun e w' => Below wB.heap.size wB w' ∧ ∃ v', e = .returned (.tuple #[v', .bool false]) := fun W v hb hv => by
                    refine (capp W v hb hv).mono ?_
                    rintro e w' ⟨h1, ⟨h2, _⟩ | ⟨h2, v', h3⟩⟩
                    · exact absurd h2 hcmp
                    · exact ⟨h1, v', h3⟩
                  have hE : R = false := by rw [hR, okKs_len hcmp]; simp
                  have HE := Lib.hid hE
                  clear hR hE capp hka hkd hn38 hp14 hl100 hqq hPE hplc hcmp
                  go_wp2_with (first | (go_at_call 21; (with_reducible refine (ck _ HB.out).mono ?_); intro e w2 hp; obtain ⟨rfl, hb⟩ := hp; have HB := Lib.hid (HB.out.trans (hb.mono HB.out.size)); have HBS := Lib.hid (HBS.out.call hb); have lds := run_ldS HBS.out; have HCUT := Lib.hid (HCUT.out.below hb); clear hb) | (go_at_call 22; (with_reducible refine (ct2 _ HB.out).mono ?_); intro e w2 hp; obtain ⟨rfl, hb⟩ := hp; have HB := Lib.hid (HB.out.trans (hb.mono HB.out.size)); have HBS := Lib.hid (HBS.out.call hb); have lds := run_ldS HBS.out; have HCUT := Lib.hid (HCUT.out.below hb); clear hb) | (go_at_call 23; (with_reducible refine (cn _ HB.out).mono ?_); intro e w2 hp; obtain ⟨rfl, hb⟩ := hp; have HB := Lib.hid (HB.out.trans (hb.mono HB.out.size)); have HBS := Lib.hid (HBS.out.call hb); have lds := run_ldS HBS.out; have HCUT := Lib.hid (HCUT.out.below hb); clear hb) | (go_at_call 24; (with_reducible refine (cm _ HB.out).mono ?_); intro e w2 hp; obtain ⟨rfl, hb⟩ := hp; have HB := Lib.hid (HB.out.trans (hb.mono HB.out.size)); have HBS := Lib.hid (HBS.out.call hb); have lds := run_ldS HBS.out; have HCUT := Lib.hid (HCUT.out.below hb); clear hb) | (go_at_call 25; (with_reducible refine (ce _ HB.out).mono ?_); intro e w2 hp; obtain ⟨rfl, hb⟩ := hp; have HB := Lib.hid (HB.out.trans (hb.mono HB.out.size)); have HBS := Lib.hid (HBS.out.call hb); have lds := run_ldS HBS.out; have HCUT := Lib.hid (HCUT.out.below hb); clear hb) | (go_at_call 26; (with_reducible refine (capp2 _ _ HB.out HCUT.out).mono ?_); rintro e w9 ⟨hb9, v9, rfl⟩; have HB9 := Lib.hid hb9; clear hb9))
                  go_ret
                  exact ⟨by rw [HE.out]; rfl, HBW.out.trans (HB9.out.mono HBW.out.size)⟩
end Go.Proofs.YtinoaajohkafmaaGreat.Pr

/-
  The stack of early.Check.
-/
namespace Go.Proofs.YtinoaajohkafmaaGreat.Ey
open Go Go.RowKit Go.Maps Go.Proofs.YtinoaajohkafmaaGreat.Pa Go.Proofs.YtinoaajohkafmaaGreat.Pr
open Go.Proofs.YtinoaajohkafmaaGreat.Lx
set_option linter.unusedVariables false
set_option linter.unusedSimpArgs false
structure Sp2 where
  b : Nat
  o : Nat
  f : Bool
  l : Bool
  h : Bool
def spd (s : Sp2) : List Value := (scs2 s.b s.o s.f s.l s.h).toList
def spds (l : List Sp2) : List Value := l.flatMap spd
theorem spds_snoc (l : List Sp2) (s : Sp2) : spds (l ++ [s]) = spds l ++ spd s := by simp [spds]
theorem spd_len (s : Sp2) : (spd s).length = 4 := rfl
theorem spds_len (l : List Sp2) : (spds l).length = l.length * 4 := by
  induction l with
  | nil => rfl
  | cons a l ih =>
    have : spds (a :: l) = spd a ++ spds l := rfl
    rw [this, List.length_append, ih, spd_len, List.length_cons]
    omega
theorem spds_at : ∀ {l : List Sp2} {i : Nat} {s : Sp2} {j : Nat} {v : Value}, l[i]? = some s → (spd s)[j]? = some v → (spds l)[i * 4 + j]? = some v
  | [], i, s, j, v, h, _ => by simp at h
  | a :: l, 0, s, j, v, h, k => by
    simp at h; subst h
    have e : spds (a :: l) = spd a ++ spds l := rfl
    rw [e, List.getElem?_append_left (by have := (List.getElem?_eq_some_iff.1 k).1; omega), Nat.zero_mul, Nat.zero_add]
    exact k
  | a :: l, i + 1, s, j, v, h, k => by
    simp at h
    have e : spds (a :: l) = spd a ++ spds l := rfl
    rw [e, List.getElem?_append_right (by rw [spd_len]; omega), spd_len, show (i + 1) * 4 + j - 4 = i * 4 + j from by omega]
    exact spds_at h k
theorem spds_take (l : List Sp2) (n : Nat) : (spds l).take (n * 4) = spds (l.take n) := by
  induction l generalizing n with
  | nil => simp [spds]
  | cons a l ih =>
    cases n with
    | zero => simp [spds]
    | succ n =>
      have e : spds (a :: l) = spd a ++ spds l := rfl
      have e2 : spds ((a :: l).take (n + 1)) = spd a ++ spds (l.take n) := rfl
      rw [e, e2, ← ih n, show (n + 1) * 4 = (spd a).length + n * 4 from by rw [spd_len]; omega, List.take_length_add_append]
def Spds (B : Nat) (w : World) (v : Value) (l : List Sp2) : Prop := w.ownsRow B 44 4 v l.length (spds l)
theorem Spds.below {B : Nat} {w w' : World} {v : Value} {l : List Sp2} (h : Spds B w v l) (hb : Below w.heap.size w w') : Spds B w' v l := h.kept (row := Option.none) ⟨hb.os, hb.tape, hb.output, hb.size, fun k hk _ => hb.block k hk⟩ (by cases hv : v.ownBlock <;> simp)
theorem Spds.shape {B : Nat} {w : World} {v : Value} {l : List Sp2} (h : Spds B w v l) : ∃ a c, v = .slice a l.length c := by
  rcases h.2 with ⟨h1, h2⟩ | ⟨g, cap, cur, h1, _⟩
  · exact ⟨none, 0, by rw [h1, h2]⟩
  · exact ⟨_, _, h1⟩
theorem Spds.last {B : Nat} {w : World} {v : Value} {l : List Sp2} {s : Sp2} (h : Spds B w v (l ++ [s])) : ∃ g c, v = .slice (some ⟨g, 0, none⟩) (l.length + 1) c ∧ l.length + 1 ≤ c ∧ (∀ j u, (spd s)[j]? = some u → w.cell? ⟨g, l.length * 4 + j, none⟩ = some u) ∧ Spds B w (.slice (some ⟨g, 0, none⟩) l.length c) l := by
  have hn : (l ++ [s]).length = l.length + 1 := by simp
  have h' := h
  unfold Spds at h
  rw [hn] at h
  have hc := fun g => World.ownsRow.cells h (g := g)
  rcases h.2 with ⟨h1, h2⟩ | ⟨g, cap, cur, h1, h2, h3, h4, h5, h6, h7⟩
  · omega
  · refine ⟨g, cap, h1, h4, fun j u hu => ?_, ?_⟩
    · have := hc g (by rw [h1]; rfl) (l.length * 4 + j) u (spds_at (by simp) hu)
      have e : (⟨g, 0, none⟩ : Addr).add (l.length * 4 + j) = ⟨g, l.length * 4 + j, none⟩ := by unfold Addr.add; split <;> simp_all
      rwa [e] at this
    · refine ⟨spds_len l, .inr ⟨g, cap, cur, rfl, h2, h3, by omega, h5, h6, ?_⟩⟩
      have e : (spds (l ++ [s])).take (l.length * 4) = spds l := by rw [spds_take]; simp
      rw [← e, ← h7, List.take_take, Nat.min_eq_left (by omega)]
def zer2 : Array Value := #[.pointer none, .bool false, .bool false, .bool false]
theorem ldT (v : Value) : Instr.loadAt 44 v = Ld 44 v := (rfl)
theorem stT (p v : Value) : Instr.storeAt 44 p v = Lx.St 44 p v := (rfl)
theorem alT : Instr.alloc 44 true (.tuple #[]) = Al 44 := (rfl)
theorem bdT (ps : Array (Nat × Value)) : Instr.build 44 ps = Bd 44 ps := (rfl)
theorem ldQ (v : Value) : Instr.loadAt 42 v = Ld 42 v := (rfl)
theorem stQ (p v : Value) : Instr.storeAt 42 p v = Lx.St 42 p v := (rfl)
theorem alQ : Instr.alloc 42 true (.tuple #[]) = Al 42 := (rfl)
def BsT (ps : Array (Nat × Value)) : Sem Value := Instr.buildSlice 45 1 ps
theorem bsT (ps : Array (Nat × Value)) : Instr.buildSlice 45 1 ps = BsT ps := (rfl)
theorem infoT3 : (Tryz.prog.info? 44).map (fun i => (i.zero, i.size, i.bytes)) = some (some (.agg zer2), 4, 16) := by kernel_rfl
theorem infoT2 : (Tryz.prog.info? 44).map (fun i => (i.zero, i.size)) = some (some (.agg zer2), 4) := by kernel_rfl
theorem sizeT : (Tryz.prog.info? 44).map (·.size) = some 4 := by kernel_rfl
theorem infoQ : (Tryz.prog.info? 42).map (fun i => (i.zero, i.size)) = some (some (.agg (qcs false false false)), 3) := by kernel_rfl
theorem scs2_size (a o : Nat) (f l b : Bool) : (scs2 a o f l b).size = 4 := rfl
theorem scs2_one (a o : Nat) (f l b : Bool) : (scs2 a o f l b).all (·.oneCell') = true := by simp [scs2, Value.oneCell']
theorem scs2_0 (a o : Nat) (f l b : Bool) : (scs2 a o f l b)[0]? = some (.pointer (some ⟨a, o, none⟩)) := rfl
theorem qcs_one (f l b : Bool) : (qcs f l b).all (·.oneCell') = true := by simp [qcs, Value.oneCell']
theorem run_alT (w : World) : (Al 44).run Tryz.prog w = .ok (ptr w.heap.size) (w.alloc (.cells zer2 44)) := run_al infoT2 w
theorem run_alQ (w : World) : (Al 42).run Tryz.prog w = .ok (ptr w.heap.size) (w.alloc (.cells (qcs false false false) 42)) := run_al infoQ w
theorem run_stT (w : World) (a o : Nat) (f l b : Bool) : (Lx.St 44 (.pointer (some ⟨w.heap.size, 0, none⟩)) (.agg (scs2 a o f l b))).run Tryz.prog (w.alloc (.cells zer2 44)) = .ok () (w.alloc (.cells (scs2 a o f l b) 44)) := by
  have h : (Lx.St 44 (.pointer (some ⟨w.heap.size, 0, none⟩)) (.agg (scs2 a o f l b))).run Tryz.prog (w.alloc (.cells zer2 44)) = .ok () ((w.alloc (.cells zer2 44)).setRow w.heap.size (scs2 a o f l b)) := run_st_row (Blk.new w zer2 _) (by exact sizeT) (by rfl) (scs2_one _ _ _ _ _)
  rw [h, setRow_new]
theorem run_stQ (w : World) (f l b : Bool) : (Lx.St 42 (.pointer (some ⟨w.heap.size, 0, none⟩)) (.agg (qcs f l b))).run Tryz.prog (w.alloc (.cells (qcs false false false) 42)) = .ok () (w.alloc (.cells (qcs f l b) 42)) := by
  have h : (Lx.St 42 (.pointer (some ⟨w.heap.size, 0, none⟩)) (.agg (qcs f l b))).run Tryz.prog (w.alloc (.cells (qcs false false false) 42)) = .ok () ((w.alloc (.cells (qcs false false false) 42)).setRow w.heap.size (qcs f l b)) := run_st_row (Blk.new w _ _) (by exact sizeQ) (by rfl) (qcs_one _ _ _)
  rw [h, setRow_new]
theorem run_ldT {w : World} {g a o : Nat} {f l b : Bool} {T : TypeId} (h : Blk w g (scs2 a o f l b) T) : (Ld 44 (.pointer (some ⟨g, 0, none⟩))).run Tryz.prog w = .ok (.agg (scs2 a o f l b)) w := by
  have := run_loadAt_mid (P := Tryz.prog) w g 0 44 (scs2 a o f l b).toList _ (h.range (r := []) (by simp)) Tryz.underlying44 rfl sizeT
  simpa [Ld] using this
theorem run_ldQ {w : World} {g : Nat} {f l b : Bool} {T : TypeId} (h : Blk w g (qcs f l b) T) : (Ld 42 (.pointer (some ⟨g, 0, none⟩))).run Tryz.prog w = .ok (.agg (qcs f l b)) w := by
  have := run_loadAt_mid (P := Tryz.prog) w g 0 42 (qcs f l b).toList _ (h.range (r := []) (by simp)) Tryz.underlying42 rfl sizeQ
  simpa [Ld] using this
theorem run_ldTm {w : World} {b o : Nat} {s : Sp2} (h : w.rangeAt b o (spd s)) : (Ld 44 (.pointer (some ⟨b, o, none⟩))).run Tryz.prog w = .ok (.agg (scs2 s.b s.o s.f s.l s.h)) w := by
  have := run_loadAt_mid (P := Tryz.prog) w b o 44 (spd s) _ h Tryz.underlying44 rfl sizeT
  simpa [Ld, spd] using this
theorem run_bdT0 (w : World) (a o : Nat) : (Bd 44 #[(0, .pointer (some ⟨a, o, none⟩))]).run Tryz.prog w = .ok (.agg (scs2 a o false false false)) w := run_build w _ _ _ (by kernel_rfl)
theorem run_bdT1 (w : World) (a o : Nat) (f l b : Bool) : (Bd 44 #[(0, .pointer (some ⟨a, o, none⟩)), (1, .agg (qcs f l b))]).run Tryz.prog w = .ok (.agg (scs2 a o f l b)) w := run_build w _ _ _ (by kernel_rfl)
theorem run_bsT (w : World) (a o : Nat) (f l b : Bool) : (BsT #[(0, .agg (scs2 a o f l b))]).run Tryz.prog w = .ok (.slice (some ⟨w.heap.size, 0, none⟩) 1 1) (w.alloc (.cells (scs2 a o f l b) 44)) := by
  obtain ⟨i, hi, hz, hs, hb⟩ := info_parts infoT3
  exact run_buildSlice w 45 44 1 _ (scs2 a o f l b) i (.agg zer2) Tryz.underlying45 hi hz (by rw [hs]; decide) (by rw [hs]; decide) (by rw [hs]; have h := Go.Great.fill_whole (s := 4) (by decide) [.agg (scs2 a o f l b)] ((Array.range (1 * 4)).map ((Value.agg zer2).cells[· % (Value.agg zer2).cells.size]!)) (fun v hv => by rw [List.mem_singleton.1 hv]; rfl) (by simp); simpa [Value.cells] using h)
theorem spds_app {B : Nat} {w : World} {v : Value} {L : List Sp2} (h : Spds B w v L) (hB : B ≤ w.heap.size) (hl : L.length ≤ 1000000000) (s : Sp2) :
    ∃ g c w', (Builtin.append_ #[45, 45] 45 #[v, .slice (some ⟨w.heap.size, 0, none⟩) 1 1]).run Tryz.prog (w.alloc (.cells (scs2 s.b s.o s.f s.l s.h) 44)) = .ok (.slice (some ⟨g, 0, none⟩) (L.length + 1) c) w' ∧ Spds B w' (.slice (some ⟨g, 0, none⟩) (L.length + 1) c) (L ++ [s]) ∧ (w.alloc (.cells (scs2 s.b s.o s.f s.l s.h) 44)).grownBy w' v.ownBlock ∧ (v.ownBlock = some g ∨ g = w.heap.size + 1) := by
  obtain ⟨i, hi, hz0, hz1, hz2⟩ := info_parts infoT3
  have h' : (w.alloc (.cells (scs2 s.b s.o s.f s.l s.h) 44)).ownsRow B 44 4 v L.length (spds L) := World.ownsRow.alloc h _
  obtain ⟨v', w', hrun, hown, hg, _, hat⟩ := run_append_own_at (P := Tryz.prog) (w.alloc (.cells (scs2 s.b s.o s.f s.l s.h) 44)) B 45 45 44 i (.agg zer2) 4 16 Tryz.underlying45 hi hz0 hz1 hz2 rfl (by decide) v L.length _ h' ⟨w.heap.size, 0, none⟩ 1 1 (spd s) rfl (fun j u hu => by
    have ha : (⟨w.heap.size, 0, none⟩ : Addr).add j = ⟨w.heap.size, j, none⟩ := by unfold Addr.add; split <;> simp_all
    rw [ha, (Blk.new w _ _).cell]
    simpa [spd] using hu) (fun u hu => by
    have h := scs2_one s.b s.o s.f s.l s.h
    rw [Array.all_eq_true_iff_forall_mem] at h
    exact h u (by simpa [spd] using hu)) (by unfold maxLen; omega) (by omega) (by simp; omega)
  obtain ⟨g, c, rfl⟩ := own_succ hown
  refine ⟨g, c, w', hrun, ?_, hg, ?_⟩
  · unfold Spds
    rw [spds_snoc]
    simpa using hown
  · have k : (w.alloc (.cells (scs2 s.b s.o s.f s.l s.h) 44)).heap.size = w.heap.size + 1 := by simp
    rcases hat with e | e
    · left; rw [← e]; rfl
    · right
      rw [k] at e
      simpa [Value.ownBlock] using e
end Go.Proofs.YtinoaajohkafmaaGreat.Ey
