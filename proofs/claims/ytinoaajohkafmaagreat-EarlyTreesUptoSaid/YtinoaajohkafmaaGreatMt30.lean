/-
  Texts of this seat in build order: EyChkW, RpSpec, RpAt.
-/
import Derived.Test.YtinoaajohkafmaaGreatMt20
import Derived.Test.YtinoaajohkafmaaGreatMt05
import Derived.Test.YtinoaajohkafmaaGreatMt06
/-
  The program's Check, walked.
-/
namespace Go.Proofs.YtinoaajohkafmaaGreat.Ey
open Go Go.RowKit Go.Maps Go.Proofs.YtinoaajohkafmaaGreat.Pa Go.Proofs.YtinoaajohkafmaaGreat.Pr
open Go.Proofs.YtinoaajohkafmaaGreat.Lx
set_option linter.unusedVariables false
set_option linter.unusedSimpArgs false
attribute [local go_sem ↓] ldK stK alK bdK bsK ldN stN alN bdN bsN ldT stT alT bdT bsT ldQ stQ alQ
attribute [local irreducible] kcs ncs ncells scs2 qcs zer2
attribute [local go_sem] run_alT run_stT run_bdT0 run_bdT1 run_bsT run_alQ run_stQ
theorem step_app2 {P : Program} {ops : Array Oper} {o : Oper} {a : Act} {w w' : World} {K : Act → World → Prop} {Q : Exit → Act → World → Prop} {E : Prop} (hg : o.guard = none) (s x : Operand) (t : TypeId) (hop : o.op = Op.call { callee := Callee.builtin Builtin.append, args := #[s, x], argTypes := #[t, t] }) (ht : o.type = t)
    (v1 v2 v' : Value) (hs : a.eval s = v1) (hx : a.eval x = v2) (hrun : (Builtin.append_ #[t, t] t #[v1, v2]).run P w = .ok v' w') (hK : K (a.put o.dst v') w') : if Region.wanted o (yielded ops a.tmps) = true then Oper.wp P o a w K Q else E := by
  have hw : Region.wanted o (yielded ops a.tmps) = true := by simp [Region.wanted, hg]
  rw [if_pos hw]
  subst ht
  unfold Oper.wp
  simp [execOp, hop, resolve, invoke, builtin, hs, hx, hrun, Result.andThen]
  exact hK
def resN (R : Bool) : Int := if R then 2 else 0
set_option maxRecDepth 100000 in
set_option maxHeartbeats 8000000 in
theorem check_any {t : Tree} {N : Nd} {w : World} {K D : Nat} (hr : Rd w t N) (hs : Str t) (hb : Bd K D t) (hK : K ≤ 100000) (hKD : K * D ≤ 900000000) : Calls Tryz.prog 10 #[.agg (ncs N)] w (PostR w (.int .i64 (checkN t))) := by
  obtain ⟨wB, hwB⟩ : ∃ wB, w.alloc (.cells (ncs N) 25) = wB := ⟨_, rfl⟩
  have hbw : Below w.heap.size w wB := by rw [← hwB]; exact bel1
  have hsz : wB.heap.size = w.heap.size + 1 := by rw [← hwB]; simp
  have hn := Blk.new w (ncs N) 25
  rw [hwB] at hn
  have hT : TAt wB w.heap.size 0 t N := by
    refine ⟨⟨by omega, fun j v hv => ?_⟩, hr.below hbw⟩
    rw [Nat.zero_add, hn.cell j]
    simpa using hv
  have hld : (Ld 25 (.pointer (some ⟨w.heap.size, 0, none⟩))).run Tryz.prog wB = .ok (.agg (ncs N)) wB := hT.k.ld (Below.refl _ _)
  have hpr := pright_any (hr.below hbw) hs hb.bnd hK hKD
  have HBW := Lib.hid hbw
  have HWB := Lib.hid hwB
  cases hok : okT 80 t with
  | false =>
    have e : checkN t = 1 := by unfold checkN; rw [hok]; rfl
    rw [e]
    rw [hok] at hpr
    rw [← hwB] at hld hpr
    clear hr hs hb hK hKD hbw hsz hT hok e hwB hn
    go_enter Tryz.func10, Tryz.ntmps10
    go_wp2_with (go_at_call 13; (with_reducible refine hpr.mono ?_); rintro e w2 ⟨rfl, hb2⟩)
    go_ret
    exact ⟨rfl, by have h := HBW.out; rw [← HWB.out] at h; exact h.trans (hb2.mono h.size)⟩
  | true =>
    obtain ⟨R, hR⟩ : ∃ R, badT false false false t = R := ⟨_, rfl⟩
    have e : checkN t = resN R := by unfold checkN resN; rw [hok, hR]; rfl
    rw [e]
    rw [hok] at hpr
    have hst : ∀ W v, Below wB.heap.size wB W → Spds wB.heap.size W v [⟨w.heap.size, 0, false, false, false⟩] → ∃ st, RI2 K D wB W R v st ∧ sz2 st = t.sz := fun W v h1 h2 =>
      ⟨[⟨⟨w.heap.size, 0, false, false, false⟩, t, N, D⟩], ⟨h1, h2, fun q e he => by
        cases q with
        | zero =>
          simp at he
          subst he
          exact ⟨hT, hb, hs, ⟨80, hok⟩, Nat.le_refl _, by simp⟩
        | succ q => simp at he, by unfold bad2; simp [hR]⟩, by unfold sz2; simp⟩
    have HST := Lib.hid hst
    have HSZ := Lib.hid hsz
    have HK := Lib.hid hK
    have HKD := Lib.hid hKD
    obtain ⟨S0, hS0⟩ : ∃ S0, t.sz = S0 := ⟨_, rfl⟩
    rw [hS0] at HST
    rw [← hwB] at hld hpr
    clear hr hs hb hK hKD hbw hsz hT hR hst hS0 hwB hn hok e
    go_enter Tryz.func10, Tryz.ntmps10
    go_wp2_with (go_at_call 13; (with_reducible refine hpr.mono ?_); rintro e w2 ⟨rfl, hb2⟩; refine Hid.out ?_)
    refine Lib.hid ?_
    rw [HWB.out] at hb2
    have HB2 := Lib.hid hb2
    clear hb2 hpr hld
    go_wp2
    go_loopg [3] S0 (fun g v wr => ∃ st, RI2 K D wB wr R v st ∧ sz2 st = g)
    case atStart =>
      refine HST.out _ _ (HB2.out.alloc HB2.out.size _) ?_
      refine ⟨spds_len _, .inr ⟨w2.heap.size, 1, _, rfl, HB2.out.size, heap_alloc_new w2 _, Nat.le_refl _, by unfold maxLen; omega, scs2_size _ _ _ _ _, ?_⟩⟩
      unfold spds spd
      simp
      rw [List.take_of_length_le (by simp [scs2])]
    case round =>
      obtain ⟨st, hI, hg⟩ := hrel
      rcases List.eq_nil_or_concat st with rfl | ⟨st0, e, rfl⟩
      · obtain ⟨a0, c0, rfl⟩ := hI.own.shape
        have hE : R = false := hI.eq
        have HE := Lib.hid hE
        have HI := Lib.hid hI
        clear hI hE hg
        go_wp2
        go_ret
        exact ⟨by rw [HE.out]; rfl, HBW.out.trans (HI.out.bel.mono HBW.out.size)⟩
      · rw [List.concat_eq_append] at hI hg
        have hown := hI.own
        rw [List.map_append] at hown
        obtain ⟨gl, c, rfl, hqc, hcells, hcut⟩ := Spds.last hown
        rw [List.length_map] at hqc hcells hcut ⊢
        obtain ⟨hst0, hG⟩ := hI.stk.head
        have hbel := hI.bel
        obtain ⟨⟨b, o, f, l, h⟩, ⟨k, n, tx, ns, ks⟩, N0, d0⟩ := e
        obtain ⟨d, rfl⟩ : ∃ d, d0 = d + 1 := by
          have := hG.bd
          cases d0 with
          | zero => unfold Bd at this; exact this.elim
          | succ d => exact ⟨d, rfl⟩
        have hbd : ks.length ≤ K ∧ ns.length ≤ K ∧ ∀ t ∈ ks, Bd K d t := by have := hG.bd; unfold Bd at this; exact this
        have hR : R = (bad2 st0 || (misB k f l h || (twiceB k ns ks || badL (insf k f) (insl k l) (insb k) ks))) := by
          rw [hI.eq]
          unfold bad2
          rw [List.any_append]
          simp only [List.any_cons, List.any_nil, Bool.or_false]
          rfl
        have hq9 : st0.length ≤ 900000001 := by
          have h1 := hG.ix
          have h2 : K * (D - (d + 1)) ≤ K * D := Nat.mul_le_mul_left _ (Nat.sub_le _ _)
          have h3 := HKD.out
          simp only at h1
          omega
        obtain ⟨q, hq⟩ : ∃ q, st0.length = q := ⟨_, rfl⟩
        have hat : TAt wB b o (.mk k n tx ns ks) N0 := hG.at_
        have hl := run_ldTm (s := ⟨b, o, f, l, h⟩) hcells
        obtain ⟨pp, hpp⟩ := hG.ok
        have hf1 := right_fun1 hpp
        have ck := fun W (hb : Below wB.heap.size wB W) => mis_any (hat.below hb) f l h
        have cd := fun W (hb : Below wB.heap.size wB W) => dtwice_any (hat.below hb) hG.str (by have := HK.out; omega) (by have := HK.out; omega) hf1
        have ci := fun W (hb : Below wB.heap.size wB W) => ins_any (hat.below hb) f l h
        have hbs := Blk.new wr (scs2 b o f l h) 44
        have lds := run_ldT hbs
        have cp : (wr.alloc (.cells (scs2 b o f l h) 44)).cell? ⟨wr.heap.size, 0, none⟩ = some (.pointer (some ⟨b, o, none⟩)) := (hbs.cell 0).trans (scs2_0 _ _ _ _ _)
        have hcut1 := hcut.below (bel1 (o := .cells (scs2 b o f l h) 44))
        have HB : Hid (Below wB.heap.size wB (wr.alloc (.cells (scs2 b o f l h) 44))) := Lib.hid (hbel.trans ((bel1 (o := .cells (scs2 b o f l h) 44)).mono hbel.size))
        have HNE : Hid ((Value.slice (some ⟨gl, 0, none⟩) q c).ownBlock ≠ some wr.heap.size) := Lib.hid (fun e => by
          have h1 := (World.ownsRow.lt hcut gl rfl).2
          simp [Value.ownBlock] at e
          omega)
        rw [hq] at hqc hcut1 hq9 hl ⊢
        have hqi : (q : Int) ≤ 900000001 := by omega
        have hc0 : ¬ c = 0 := by omega
        have hw1 : wrap64 ((q : Int) + 1 - 1) = q := by unfold wrap64; omega
        have hw2 : wrap64 (q : Int) = q := by unfold wrap64; omega
        have HBS := Lib.hid hbs
        have HCUT := Lib.hid hcut1
        have HG := Lib.hid hG
        have HST0 := Lib.hid hst0
        have HAT := Lib.hid hat
        have HQ := Lib.hid hq
        have HQ9 := Lib.hid hq9
        have HGK := Lib.hid hg
        have HBD := Lib.hid hbd
        have eK : Tree.kind (.mk k n tx ns ks) = k := rfl
        rw [eK] at ck ci
        clear hI hown hcut hst0 hG hbel hbd hpp hf1 hbs hcut1 hat hq9 hg hcells hq
        cases h1 : misB k f l h with
        | true =>
          rw [h1] at ck hR
          have hE : R = true := by rw [hR]; simp
          have HE := Lib.hid hE
          clear hR hE cd ci
          go_wp2_with (go_at_call 14; (with_reducible refine (ck _ HB.out).mono ?_); rintro e w3 ⟨rfl, hb3⟩)
          go_ret
          exact ⟨by rw [HE.out]; rfl, HBW.out.trans ((HB.out.trans (hb3.mono HB.out.size)).mono HBW.out.size)⟩
        | false =>
          rw [h1, Bool.false_or] at hR
          rw [h1] at ck
          go_wp2_with (go_at_call 14; (with_reducible refine (ck _ HB.out).mono ?_); rintro e w3 ⟨rfl, hb3⟩; refine Hid.out ?_)
          refine Lib.hid ?_
          have HB3 := Lib.hid (HB.out.trans (hb3.mono HB.out.size))
          have HBS3 := Lib.hid (HBS.out.call hb3)
          have HCUT3 := Lib.hid (HCUT.out.below hb3)
          have cp3 : w3.cell? ⟨wr.heap.size, 0, none⟩ = some (.pointer (some ⟨b, o, none⟩)) := (HBS3.out.cell 0).trans (scs2_0 _ _ _ _ _)
          clear hb3 ck cp lds hl
          cases h2 : twiceB k ns ks with
          | true =>
            rw [h2] at cd hR
            have hE : R = true := by rw [hR]; simp
            have HE := Lib.hid hE
            clear hR hE ci
            go_wp2_with (go_at_call 15; (with_reducible refine (cd _ HB3.out).mono ?_); rintro e w4 ⟨rfl, hb4⟩)
            go_ret
            exact ⟨by rw [HE.out]; rfl, HBW.out.trans ((HB3.out.trans (hb4.mono HB3.out.size)).mono HBW.out.size)⟩
          | false =>
            rw [h2, Bool.false_or] at hR
            rw [h2] at cd
            go_wp2_with (go_at_call 15; (with_reducible refine (cd _ HB3.out).mono ?_); rintro e w4 ⟨rfl, hb4⟩; refine Hid.out ?_)
            refine Lib.hid ?_
            have HB4 := Lib.hid (HB3.out.trans (hb4.mono HB3.out.size))
            have HBS4 := Lib.hid (HBS3.out.call hb4)
            have HCUT4 := Lib.hid (HCUT3.out.below hb4)
            have lds4 := run_ldT HBS4.out
            clear hb4 cd cp3
            go_wp2_with (go_at_call 16; (with_reducible refine (ci _ HB4.out).mono ?_); rintro e w5 ⟨rfl, hb5⟩; refine Hid.out ?_)
            refine Lib.hid ?_
            obtain ⟨f2, hf2⟩ : ∃ f2, insf k f = f2 := ⟨_, rfl⟩
            obtain ⟨l2, hl2⟩ : ∃ l2, insl k l = l2 := ⟨_, rfl⟩
            obtain ⟨h3, hh3⟩ : ∃ h3, insb k = h3 := ⟨_, rfl⟩
            have HF2 := Lib.hid hf2
            have HL2 := Lib.hid hl2
            have HH3 := Lib.hid hh3
            rw [hf2, hl2, hh3] at hR ⊢
            have HR := Lib.hid hR
            obtain ⟨b2, o2, hka, hkd⟩ := kids_at HAT.out
            obtain ⟨m, hm⟩ : ∃ m, ks.length = m := ⟨_, rfl⟩
            have hIR : IR wB wr.heap.size w5.heap.size b o f l h f2 l2 h3 (st0.map fun e => e.s) (.slice (some ⟨gl, 0, none⟩) q c) (w5.alloc (.cells (qcs f2 l2 h3) 42)) := by
              have hb6 := hb5.alloc hb5.size (.cells (qcs f2 l2 h3) 42)
              exact ⟨HCUT4.out.below hb6, HBS4.out.call hb6, Blk.new _ _ _, HNE.out, HB4.out.trans (hb6.mono HB4.out.size)⟩
            have HIR := Lib.hid hIR
            have cp6 : (w5.alloc (.cells (qcs f2 l2 h3) 42)).cell? ⟨wr.heap.size, 0, none⟩ = some (.pointer (some ⟨b, o, none⟩)) := (hIR.b5.cell 0).trans (scs2_0 _ _ _ _ _)
            have ck6 : (w5.alloc (.cells (qcs f2 l2 h3) 42)).cell? ⟨b, o + 4, none⟩ = some (.slice N0.kids.a N0.kids.n N0.kids.c) := HAT.out.k.kids hIR.bel
            rw [HAT.out.kids, hm] at ck6
            have HM := Lib.hid hm
            have HKA := Lib.hid hka
            have HKD2 := Lib.hid hkd
            clear hf2 hl2 hh3 hR hka hkd hIR hb5 ci lds4 hm
            go_wp2
            obtain ⟨wq, hwq⟩ : ∃ u, u = wr := ⟨_, rfl⟩
            subst hwq
            go_loopw [3, 41] (fun v i wr => ∃ j : Nat, j ≤ m ∧ i = .int .i64 j ∧ IR wB wq.heap.size w5.heap.size b o f l h f2 l2 h3 ((st0.map fun e => e.s) ++ kidS b2 o2 f2 l2 h3 j) v wr) (fun _ i _ => m - (intOf i).toNat)
            case atStart => exact ⟨0, Nat.zero_le _, rfl, by rw [show kidS b2 o2 f2 l2 h3 0 = [] from rfl, List.append_nil]; exact HIR.out⟩
            case round =>
              obtain ⟨j, hj, rfl, hJ⟩ := hrel
              by_cases hlt : j < m
              · obtain ⟨u, hu⟩ : ∃ u, ks[j]? = some u := ⟨ks[j]'(by have := HM.out; omega), List.getElem?_eq_getElem _⟩
                have hka := HKA.out (by have := HM.out; omega)
                have hJd := hJ.drew
                have cp7 : wr.cell? ⟨wq.heap.size, 0, none⟩ = some (.pointer (some ⟨b, o, none⟩)) := (hJ.b5.cell 0).trans (scs2_0 _ _ _ _ _)
                have ck7 : wr.cell? ⟨b, o + 4, none⟩ = some (.slice N0.kids.a N0.kids.n N0.kids.c) := HAT.out.k.kids hJ.bel
                rw [HAT.out.kids, HM.out, hka] at ck7
                have lq := run_ldQ (w := wr.drew) hJ.b6
                have hll : ((st0.map fun e => e.s) ++ kidS b2 o2 f2 l2 h3 j).length ≤ 1000000000 := by
                  rw [List.length_append, List.length_map, kidS_len, HQ.out]
                  have := HQ9.out; have := HK.out; have := HBD.out.1; have := HM.out
                  omega
                obtain ⟨g7, c7, w7, hrun, hIR7⟩ := hJd.app hll ⟨b2, o2 + j * 5, f2, l2, h3⟩
                obtain ⟨V, hV⟩ : ∃ V, V = Value.slice (some ⟨g7, 0, none⟩) (((st0.map fun e => e.s) ++ kidS b2 o2 f2 l2 h3 j).length + 1) c7 := ⟨_, rfl⟩
                obtain ⟨av, cv, hsv⟩ := hJ.own.shape
                rw [hsv] at hrun ⊢
                obtain ⟨L, hL⟩ : ∃ L, ((st0.map fun e => e.s) ++ kidS b2 o2 f2 l2 h3 j).length = L := ⟨_, rfl⟩
                rw [hL] at hrun hIR7 ⊢
                rw [List.append_assoc, ← kidS_succ] at hIR7
                have HI7 := Lib.hid hIR7
                replace hrun : (Builtin.append_ #[45, 45] 45 #[.slice av L cv, .slice (some ⟨wr.heap.size, 0, none⟩) 1 1]).run Tryz.prog (wr.alloc (.cells (scs2 b2 (o2 + j * 5) f2 l2 h3) 44)).drew = .ok (.slice (some ⟨g7, 0, none⟩) (L + 1) c7) w7 := hrun
                have t1 : (j : Int) < m := by omega
                have t2 : decide ((m : Int) ≤ j) = false := by simp; omega
                have hw : wrap64 ((j : Int) + 1) = j + 1 := by unfold wrap64; have := HM.out; have := HK.out; have := HBD.out.1; omega
                have HLT := Lib.hid hlt
                clear hJ hJd hu hka hll hIR7 hV hsv hL hj
                go_wp2
                go_region_law (refine step_app2 rfl (.tmp 44) (.tmp 54) 45 rfl rfl _ _ _ (by simp [Act.eval, Act.put]) (by simp [Act.eval, Act.put]) hrun ?_)
                all_goals go_wp2
                all_goals go_roundw
                all_goals first | exact ⟨j + 1, HLT.out, by congr 1, HI7.out⟩ | exact meas_w hw HLT.out
              · obtain rfl : j = m := by omega
                have t2 : decide ((j : Int) < j) = false := by simp
                have hown := hJ.own
                rw [← HM.out] at hown
                obtain ⟨st', hri, hsz'⟩ := ri2_push (R := R) HST0.out HG.out (by have h := HR.out; rw [← HF2.out, ← HL2.out, ← HH3.out] at h; exact h) HKD2.out hJ.bel (by rw [← HF2.out, ← HL2.out, ← HH3.out] at hown; exact hown)
                have HRI := Lib.hid hri
                have HSZ' := Lib.hid hsz'
                clear hJ hown hri hsz' hj hlt
                go_wp2
                go_roundg (sz2 st')
                case measure => have h1 := HSZ'.out; rw [HGK.out] at h1; exact h1
                case rel => exact ⟨st', HRI.out, rfl⟩
end Go.Proofs.YtinoaajohkafmaaGreat.Ey

/-
  Plain mathematics: the reference's parser for a list of tokens. Where it does as the program's does, that one's functions serve.
-/
namespace Go.Proofs.YtinoaajohkafmaaGreat.Rp
open Go.Proofs.YtinoaajohkafmaaGreat.Pa
open Go.Proofs.YtinoaajohkafmaaGreat.Lx
set_option linter.unusedVariables false
set_option linter.unusedSimpArgs false
def rlistF {T : Type} (fin : ByteArray) (el : PS → T × PS) (s : PS) : List T × PS :=
  if s.fault = 0 ∧ seesF fin s = false then
    let x := el s
    let r := moreF el x.2.left.length x.2
    (x.1 :: r.1, r.2)
  else ([], s)
def rargsF (L : Low) (s : PS) : List Tree × PS :=
  let x := rlistF ⟨#[41]⟩ L.ex (needsF ⟨#[40]⟩ s)
  (x.1, needsF ⟨#[41]⟩ x.2)
def rfuncF (L : Low) (name : ByteArray) (s : PS) : Tree × PS :=
  let x := rlistF ⟨#[41]⟩ nameF (needsF ⟨#[40]⟩ s)
  let y := blockF L (needsF ⟨#[41]⟩ x.2)
  (.mk 14 0 name x.1 y.1.kids, y.2)
def rexF (L : Low) (s : PS) : Tree × PS :=
  let x := condF L s
  if seesF ⟨#[61]⟩ x.2 then
    if x.1.kind ≠ 8 ∧ memberB x.1 = false then (x.1, x.2.fail 2) else
      let y := L.ex (needsF ⟨#[61]⟩ x.2)
      (node 24 [x.1, y.1], y.2)
  else x
def rmembF (L : Low) (calls : Bool) : Nat → Tree → PS → Tree × PS
  | 0, n, s => (n, s)
  | f + 1, n, s =>
    if seesF ⟨#[46]⟩ s then
      let x := memF s.take
      rmembF L calls f (.mk 15 0 x.1 [] [n]) x.2
    else if seesF ⟨#[91]⟩ s then
      let x := L.ex s.take
      rmembF L calls f (node 16 [n, x.1]) (needsF ⟨#[93]⟩ x.2)
    else if calls && seesF ⟨#[40]⟩ s then
      let x := rargsF L s
      rmembF L calls f (node 17 (n :: x.1)) x.2
    else (n, s)
def rprimF (L : Low) (s : PS) : Tree × PS :=
  if s.next.kind = 3 then (.mk 1 s.next.num noS [] [], s.take)
  else if s.next.kind = 4 then (.mk 2 0 s.next.text [] [], s.take)
  else if s.next.kind = 1 then (.mk 8 0 s.next.text [] [], s.take)
  else if seesF ⟨#[40]⟩ s then parenF L s
  else if seesF ⟨#[91]⟩ s then
    let x := rlistF ⟨#[93]⟩ L.ex s.take
    (node 9 x.1, needsF ⟨#[93]⟩ x.2)
  else if seesF ⟨#[123]⟩ s then
    let x := rlistF ⟨#[125]⟩ (elemF L) s.take
    (node 10 x.1, needsF ⟨#[125]⟩ x.2)
  else if seesF ⟨#[102, 117, 110, 99, 116, 105, 111, 110]⟩ s then
    if s.take.next.kind = 1 then rfuncF L s.take.next.text s.take.take else rfuncF L noS s.take
  else litF s
def rpostF (L : Low) (s : PS) : Tree × PS :=
  if seesF ⟨#[110, 101, 119]⟩ s then
    let x := rprimF L s.take
    let y := rmembF L false x.2.left.length x.1 x.2
    let z := rargsF L y.2
    rmembF L true z.2.left.length (node 18 (y.1 :: z.1)) z.2
  else
    let x := rprimF L s
    rmembF L true x.2.left.length x.1 x.2
def runF (L : Low) (s : PS) : Tree × PS :=
  if seesOneF prefixT s then
    let x := L.un s.take
    (.mk 19 0 s.next.text [] [x.1], if eqT s.next.text ⟨#[100, 101, 108, 101, 116, 101]⟩ && !memberB x.1 then x.2.fail 2 else x.2)
  else rpostF L s
def rstF (L : Low) (s : PS) : Tree × PS :=
  if seesF ⟨#[123]⟩ s then blockF L s
  else if seesF ⟨#[102, 117, 110, 99, 116, 105, 111, 110]⟩ s then
    let x := nameF s.take
    let y := rfuncF L x.1 x.2
    (node 32 [y.1], y.2)
  else if seesF ⟨#[105, 102]⟩ s then choiceF L s.take
  else if seesF ⟨#[119, 104, 105, 108, 101]⟩ s then
    let x := parenF L s.take
    let y := L.st x.2
    (node 35 [x.1, y.1], y.2)
  else if seesF ⟨#[116, 114, 121]⟩ s then tryF L s.take
  else
    let x := simpF L s
    (x.1, needsF ⟨#[59]⟩ x.2)
end Go.Proofs.YtinoaajohkafmaaGreat.Rp

/-
  The reference's parser in memory, and what its small methods do.
-/
namespace Go.Proofs.YtinoaajohkafmaaGreat.Rp
open Go Go.RowKit Go.Proofs.YtinoaajohkafmaaGreat.Lx Go.Proofs.YtinoaajohkafmaaGreat.Uni Go.Proofs.YtinoaajohkafmaaGreat.Pa
set_option linter.unusedVariables false
set_option linter.unusedSimpArgs false
def WordsOk (L : List Tok) : Prop := ∀ t ∈ L, t.kind = 2 → t.text ≠ ⟨#[58]⟩
def At (g d : Nat) (s : PS) (w : World) : Prop :=
  OkS s ∧ ∃ (v : Sl) (L : List Tok) (k : Nat) (D : Int), w.heap[g]? = some (.cells #[v.v, .int .i64 (k : Int), .int .i64 D, .int .i64 s.fault, .int .i64 s.pos] 54 (0, 0)) ∧ Tks g w v L ∧ k < L.length ∧ (L.length ≤ 100000 ∧ WordsOk L) ∧ (s.fault = 0 → s.left = L.drop k ∧ D = (d : Int) ∧ s.pos = 0)
theorem At.lt {g d : Nat} {s : PS} {w : World} (h : At g d s w) : g < w.heap.size := by
  obtain ⟨-, v, L, k, D, h1, -⟩ := h
  exact lt_of_block h1
theorem At.ok {g d : Nat} {s : PS} {w : World} (h : At g d s w) : OkS s := h.1
theorem At.below {g d : Nat} {s : PS} {w w' : World} (h : At g d s w) (hb : Below w.heap.size w w') : At g d s w' := by
  have hlt := h.lt
  obtain ⟨h0, v, L, k, D, h1, h2, h3⟩ := h
  exact ⟨h0, v, L, k, D, (hb.block g hlt).trans h1, h2.keep fun b hb1 _ _ => hb.block b hb1, h3⟩
theorem At.alloc {g d : Nat} {s : PS} {w : World} (h : At g d s w) (o : Obj) : At g d s (w.alloc o) := h.below bel1
theorem At.drewN {g d : Nat} {s : PS} {w : World} (h : At g d s w) (n : Nat) : At g d s (w.drewN n) := h
theorem At.drew {g d : Nat} {s : PS} {w : World} (h : At g d s w) : At g d s w.drew := h
theorem At.row {g d : Nat} {s : PS} {w : World} (h : At g d s w) {b : Nat} {cs cs' : Array Value} (hb : Blk w b cs 25) : At g d s (w.setRow b cs') := by
  obtain ⟨h0, v, L, k, D, h1, h2, h3⟩ := h
  have hne : g ≠ b := by
    rintro rfl
    unfold Blk at hb
    rw [hb] at h1
    simp at h1
  refine ⟨h0, v, L, k, D, (setRow_other w b g cs' hne).trans h1, h2.keep fun b2 _ _ hc => ?_, h3⟩
  obtain ⟨cur, hc⟩ := hc
  refine setRow_other w b b2 cs' ?_
  rintro rfl
  unfold Blk at hb
  rw [hb] at hc
  simp at hc
def Post (g d : Nat) (w : World) (v : Value) (s : PS) (e : Ending) (w' : World) : Prop := e = .returned v ∧ At g d s w' ∧ GB g w w'
def PostS (S : Nat → Prop) (g d : Nat) (w : World) (R : Tree × PS) (e : Ending) (w' : World) : Prop := ∃ N, e = .returned (.agg (ncs N)) ∧ Rep (fun b => S b ∨ w.heap.size ≤ b) w' R.1 N ∧ At g d R.2 w' ∧ GB g w w'
abbrev PostN (g d : Nat) (w : World) (R : Tree × PS) : Ending → World → Prop := PostS (fun _ => False) g d w R
structure Opn (g d : Nat) (s : PS) (w : World) (b o c n k : Nat) (D : Int) (T : Tok) : Prop where
  c0 : w.cell? ⟨g, 0, none⟩ = some (.slice (some ⟨b, o, none⟩) n c)
  c1 : w.cell? ⟨g, 1, none⟩ = some (.int .i64 (k : Int))
  c2 : w.cell? ⟨g, 2, none⟩ = some (.int .i64 D)
  c3 : w.cell? ⟨g, 3, none⟩ = some (.int .i64 s.fault)
  c4 : w.cell? ⟨g, 4, none⟩ = some (.int .i64 s.pos)
  fz : ∀ i, w.frozen? ⟨g, i, none⟩ = false
  rg : w.rangeAt b (o + k * 4) (kcs T).toList
  kn : k < n
  nc : n ≤ c
  n5 : n ≤ 100000
  lv : s.fault = 0 → T = s.next ∧ D = (d : Int) ∧ s.pos = 0 ∧ k + s.left.length = n
theorem tcells_at : ∀ {L : List Tok} {k : Nat} {t : Tok}, L[k]? = some t → ∀ {j : Nat} {u : Value}, (kcs t).toList[j]? = some u → (tcells L)[k * 4 + j]? = some u
  | [], k, t, h, _, _, _ => by simp at h
  | a :: L, 0, t, h, j, u, hu => by
    simp at h; subst h
    have e : tcells (a :: L) = (kcs a).toList ++ tcells L := rfl
    rw [e, Nat.zero_mul, Nat.zero_add, List.getElem?_append_left (List.getElem?_eq_some_iff.1 hu).1]
    exact hu
  | a :: L, k + 1, t, h, j, u, hu => by
    simp at h
    have e : tcells (a :: L) = (kcs a).toList ++ tcells L := rfl
    rw [e, List.getElem?_append_right (by rw [kcs_list]; omega), kcs_list, show (k + 1) * 4 + j - 4 = k * 4 + j from by omega]
    exact tcells_at h hu
theorem At.opnL {g d : Nat} {s : PS} {w : World} (h : At g d s w) : ∃ (L : List Tok) (b o c k : Nat) (D : Int) (T : Tok), Opn g d s w b o c L.length k D T ∧ w.rangeAt b o (tcells L) ∧ WordsOk L ∧ (s.fault = 0 → s.left = L.drop k) := by
  obtain ⟨h0, v, L, k, D, h1, ⟨b, o, cur, h2, h3, h4, h5, h6⟩, h7, h8, h9⟩ := h
  obtain ⟨T, hT⟩ : ∃ T, L[k]? = some T := ⟨_, List.getElem?_eq_getElem h7⟩
  refine ⟨L, b, o, v.c, k, D, T, ⟨?_, ?_, ?_, ?_, ?_, fun i => by simp [World.frozen?, h1], fun j u hj => ?_, h7, h6, h8.1, fun hf => ?_⟩, h5, h8.2, fun hf => (h9 hf).1⟩
  · simp only [World.cell?, h1]; rw [h2]; rfl
  · simp only [World.cell?, h1]; rfl
  · simp only [World.cell?, h1]; rfl
  · simp only [World.cell?, h1]; rfl
  · simp only [World.cell?, h1]; rfl
  · have := h5 (k * 4 + j) u (tcells_at hT hj)
    rwa [show o + (k * 4 + j) = o + k * 4 + j from by omega] at this
  · obtain ⟨e1, e2, e3⟩ := h9 hf
    refine ⟨?_, e2, e3, by rw [e1, List.length_drop]; omega⟩
    unfold PS.next
    rw [e1]
    cases hd : L.drop k with
    | nil => rw [List.drop_eq_nil_iff] at hd; omega
    | cons a r =>
      have := congrArg List.head? hd
      rw [List.head?_drop, hT] at this
      simp at this
      rw [this]
      rfl
theorem At.opn {g d : Nat} {s : PS} {w : World} (h : At g d s w) : ∃ b o c n k D T, Opn g d s w b o c n k D T := by
  obtain ⟨L, b, o, c, k, D, T, ho, -⟩ := h.opnL
  exact ⟨b, o, c, L.length, k, D, T, ho⟩
theorem At.opn2 {g d : Nat} {s : PS} {w : World} (h : At g d s w) (hf : s.fault = 0) (hk : ¬ (s.next.kind = 0 ∨ s.next.kind = -1)) : ∃ b o c n k D T, Opn g d s w b o c n k D T ∧ k + 1 < n ∧ w.rangeAt b (o + (k + 1) * 4) (kcs s.take.next).toList ∧ (s.take.next.kind = 2 → s.take.next.text ≠ ⟨#[58]⟩) := by
  obtain ⟨L, b, o, c, k, D, T, ho, hr, hw, hl⟩ := h.opnL
  have e2 := hl hf
  obtain ⟨t1, t2⟩ := h.1.take hk
  have hp := t1.pos
  have hlen : s.left.length = L.length - k := by rw [e2, List.length_drop]
  have hk1 : k + 1 < L.length := by omega
  obtain ⟨T2, hT2⟩ : ∃ T2, L[k + 1]? = some T2 := ⟨_, List.getElem?_eq_getElem hk1⟩
  have hn : s.take.next = T2 := by
    unfold PS.next PS.take
    simp only
    rw [e2, List.tail_drop, List.headD_eq_head?_getD, List.head?_drop, hT2]
    rfl
  rw [hn]
  refine ⟨b, o, c, L.length, k, D, T, ho, hk1, fun j u hj => ?_, hw T2 (List.mem_of_getElem? hT2)⟩
  have := hr ((k + 1) * 4 + j) u (tcells_at hT2 hj)
  rwa [show o + ((k + 1) * 4 + j) = o + (k + 1) * 4 + j from by omega] at this
theorem At.setk {g d : Nat} {s : PS} {w : World} (h : At g d s w) (hk : ¬ (s.next.kind = 0 ∨ s.next.kind = -1)) {b o c n k : Nat} {D : Int} {T : Tok} (ho : Opn g d s w b o c n k D T) {m : Int} (hm : m = ((k + 1 : Nat) : Int)) : At g d s.take (w.setCell ⟨g, 1, none⟩ (.int .i64 m)) := by
  subst hm
  obtain ⟨h0, v, L, k', D', h1, h2, h7, h8, h9⟩ := h
  have e1 : k' = k := by
    have := ho.c1
    simp only [World.cell?, h1] at this
    simp at this
    omega
  subst e1
  have hf := h0.live (fun e => hk (.inr e))
  obtain ⟨t1, t2⟩ := h0.take hk
  obtain ⟨e2, e3, e4⟩ := h9 hf
  have hft : s.take.fault = s.fault := rfl
  have hpt : s.take.pos = s.pos := rfl
  have hl := t1.pos
  have hlen : s.left.length = L.length - k' := by rw [e2, List.length_drop]
  refine ⟨t1, v, L, k' + 1, D', ?_, h2.keep fun b _ hb _ => heap_setCell_other w ⟨g, 1, none⟩ b _ hb, by omega, h8, fun _ => ⟨?_, e3, e4⟩⟩
  · exact heap_setCell_same w g 1 _ _ _ h1
  · unfold PS.take
    simp only
    rw [e2, List.tail_drop]
theorem At.setd {g d d' : Nat} {s : PS} {w : World} (h : At g d s w) {m : Int} (hm : s.fault = 0 → m = (d' : Int)) : At g d' s (w.setCell ⟨g, 2, none⟩ (.int .i64 m)) := by
  obtain ⟨h0, v, L, k', D', h1, h2, h7, h8, h9⟩ := h
  refine ⟨h0, v, L, k', m, ?_, h2.keep fun b _ hb _ => heap_setCell_other w ⟨g, 2, none⟩ b _ hb, h7, h8, fun hf => ⟨(h9 hf).1, hm hf, (h9 hf).2.2⟩⟩
  exact heap_setCell_same w g 2 _ _ _ h1
theorem At.set3 {g d : Nat} {s : PS} {w : World} (h : At g d s w) {e : Int} (he : e ≠ 0) : At g d ⟨[stopK], s.pos, e⟩ (w.setCell ⟨g, 3, none⟩ (.int .i64 e)) := by
  obtain ⟨h0, v, L, k', D', h1, h2, h7, h8, h9⟩ := h
  exact ⟨stop_ok _ _ he, v, L, k', D', heap_setCell_same w g 3 _ _ (.int .i64 e) h1, h2.keep fun b _ hb _ => heap_setCell_other w ⟨g, 3, none⟩ b _ hb, h7, h8, fun hf2 => absurd hf2 he⟩
theorem At.set4 {g d : Nat} {l : List Tok} {p e : Int} {w : World} (h : At g d ⟨l, p, e⟩ w) (he : e ≠ 0) (q : Int) : At g d ⟨l, q, e⟩ (w.setCell ⟨g, 4, none⟩ (.int .i64 q)) := by
  obtain ⟨h0, v, L, k', D', h1, h2, h7, h8, h9⟩ := h
  have hl : l = [stopK] := h0.st he
  subst hl
  exact ⟨stop_ok _ _ he, v, L, k', D', heap_setCell_same w g 4 _ _ (.int .i64 q) h1, h2.keep fun b _ hb _ => heap_setCell_other w ⟨g, 4, none⟩ b _ hb, h7, h8, fun hf2 => absurd hf2 he⟩
attribute [local go_sem ↓] ldK stK alK bdK bsK
attribute [local irreducible] kcs
attribute [local go_sem] run_alK run_bdK0 run_bdKs run_bdKn run_bdKe run_bsK run_fdK0 run_fdK1 run_fdK2 run_fdK3 run_fdN4
set_option maxRecDepth 100000 in
set_option maxHeartbeats 2000000 in
theorem now_raw {g : Nat} {w : World} {b o c n k : Nat} {T : Tok} (hlt : g < w.heap.size) (h0 : w.cell? ⟨g, 0, none⟩ = some (.slice (some ⟨b, o, none⟩) n c)) (h1 : w.cell? ⟨g, 1, none⟩ = some (.int .i64 (k : Int))) (hrg : w.rangeAt b (o + k * 4) (kcs T).toList) (kn : k < n) (n5 : n ≤ 100000) :
    Calls Tryz.prog 36 #[.pointer (some ⟨g, 0, none⟩)] w (PostR w (.agg (kcs T))) := by
  have c0 : ∀ x, (w.alloc x).cell? ⟨g, 0, none⟩ = some (.slice (some ⟨b, o, none⟩) n c) := fun x => by rw [World.cell?_alloc_past _ _ _ hlt]; exact h0
  have c1 : ∀ x, (w.alloc x).cell? ⟨g, 1, none⟩ = some (.int .i64 (k : Int)) := fun x => by rw [World.cell?_alloc_past _ _ _ hlt]; exact h1
  have hl := run_ldKm (w := w.alloc (.cells (kcs zeroK) 73)) (b := b) (o := o + k * 4) (t := T) (fun j u hj => by have := hrg j u hj; rw [World.cell?_alloc_past _ _ _ (World.block_lt_of_cell? w _ this)]; exact this)
  have hld := run_ldKm (w := (w.alloc (.cells (kcs zeroK) 73)).drew) (b := b) (o := o + k * 4) (t := T) (fun j u hj => show (w.alloc (.cells (kcs zeroK) 73)).cell? _ = _ from by have := hrg j u hj; rw [World.cell?_alloc_past _ _ _ (World.block_lt_of_cell? w _ this)]; exact this)
  have bN := (Blk.new w (kcs zeroK) 73).drew
  have hs := run_stK (t := T) bN
  have HBN := Lib.hid (bN.row (kcs T))
  have kni : (k : Int) < (n : Int) := by omega
  have k5 : (k : Int) ≤ 100000 := by omega
  clear h0 h1 hrg bN
  go_enter Tryz.func36, Tryz.ntmps36
  go_wp2
  go_region
  all_goals go_wp2
  all_goals exact bodyPost_ret (res_T rfl _ _ w.heap.size T rfl HBN.out) rfl ⟨rfl, below_row ((bel1).trans (Below.refl _ _).drew) _ (Nat.le_refl _)⟩
theorem now_opn {g d : Nat} {s : PS} {w : World} {b o c n k : Nat} {D : Int} {T : Tok} (h : At g d s w) (ho : Opn g d s w b o c n k D T) :
    Calls Tryz.prog 36 #[.pointer (some ⟨g, 0, none⟩)] w (PostR w (.agg (kcs T))) := now_raw h.lt ho.c0 ho.c1 ho.rg ho.kn ho.n5
theorem now_any {g d : Nat} {s : PS} {w : World} (h : At g d s w) (hf : s.fault = 0) :
    Calls Tryz.prog 36 #[.pointer (some ⟨g, 0, none⟩)] w (PostR w (.agg (kcs s.next))) := by
  obtain ⟨b, o, c, n, k, D, T, ho⟩ := h.opn
  have := now_opn h ho
  rw [(ho.lv hf).1] at this
  exact this
end Go.Proofs.YtinoaajohkafmaaGreat.Rp
