/-
  Texts of this seat in build order: RpMemb, RpEq2.
-/
import Derived.Test.YtinoaajohkafmaaGreatMt34
/-
  The reference's parser: members and calls.
-/
namespace Go.Proofs.YtinoaajohkafmaaGreat.Rp
open Go Go.RowKit Go.Proofs.YtinoaajohkafmaaGreat.Uni Go.Proofs.YtinoaajohkafmaaGreat.Pa
open Go.Proofs.YtinoaajohkafmaaGreat.Lx
set_option linter.unusedVariables false
set_option linter.unusedSimpArgs false
attribute [local go_sem ↓] ldK stK alK bdK bsK ldN stN alN bdN bsN
attribute [local irreducible] kcs ncs ncells
attribute [local go_sem] run_alK run_bdK0 run_bdKs run_bdKn run_bdKe run_bsK run_fdK0 run_fdK1 run_fdK2 run_fdK3 run_fdN4 run_alN run_stNg run_ldNg run_bdN0 run_bdN04 run_bdN02 run_bdN01 run_bdN024 run_bdN03 run_bdN0234 run_bsN1 run_bsN2 run_bsN3
section
variable {g d : Nat} {s : PS} {S0 : Nat → Prop} {w0 W : World} {bs : List (Nat × Nd)} {vs : List (Tree × Nd)}
theorem Env.only (E : Env g d s S0 w0 W bs vs) {T : Tree} {N : Nd} (h : (T, N) ∈ vs) : Env g d s S0 w0 W bs [(T, N)] :=
  ⟨E.at_, E.gb, E.gl, E.s0, E.bl, E.nd, fun v hv => by rw [List.mem_singleton.1 hv]; exact E.rp _ h⟩
theorem Env.drop {x : Nat × Nd} (E : Env g d s S0 w0 W (x :: bs) vs) : Env g d s S0 w0 W bs vs :=
  ⟨E.at_, E.gb, E.gl, E.s0, fun y hy => E.bl y (List.mem_cons_of_mem _ hy), by have := E.nd; rw [List.map_cons, List.nodup_cons] at this; exact this.2, fun v hv => Rep.keep (fun b hb hS => ⟨⟨hS.1, fun hm => hS.2 (by rw [List.map_cons]; exact List.mem_cons_of_mem _ hm)⟩, rfl⟩) _ _ (E.rp v hv)⟩
theorem src_facts (E : Env g d s S0 w0 W bs vs) {ts : List Tree} {xs : List Nd} {v : Value} (G : GrowX (Own S0 w0.heap.size (bs.map Prod.fst)) w0.heap.size W ts xs v) {d' : Nat} {R : List Tree × PS} {e : Ending} {w2 : World} (hp : PostL g d' W R e w2) (hn : ts.length ≤ 200000) :
    ∃ (S2 : Sl) (a : Option Addr) (n c : Nat) (w6 : World) (xs' : List Nd), e = .returned (.slice S2.a S2.n S2.c) ∧ Env g d' R.2 S0 w0 w2 bs vs ∧ (Builtin.append_ #[23, 23] 23 #[v, .slice S2.a S2.n S2.c]).run Tryz.prog w2 = .ok (.slice a n c) w6 ∧ Env g d' R.2 S0 w0 w6 bs [] ∧ GrowX (Own S0 w0.heap.size (bs.map Prod.fst)) w0.heap.size w6 (ts ++ R.1) xs' (.slice a n c) := by
  have hlt : ∀ b, v.ownBlock = some b → b < W.heap.size := fun b hb => (G.own.lt b hb).2
  obtain ⟨v2, xs2, he, hgr, hl, ha, hg⟩ := hp
  have E2 := E.frame ha hg
  have G2 := growx_gb G E hg
  obtain ⟨S2, hv2, hrow, hrp⟩ := hgr.row
  subst hv2
  obtain ⟨a, n, c, w6, h1, h2, h3⟩ := grow_src G2 hrow.1 (Reps.keep (fun b hb hS => ⟨⟨E.lift hS, fun e => by have := hlt b e.symm; have hS' : W.heap.size ≤ b := hS; omega⟩, rfl⟩) _ _ hrp) (fun b hb => E2.lift hb) E2.size hn (by omega)
  exact ⟨S2, a, n, c, w6, _, he, E2, h1, E2.grownV (by decide) G2.own G2.ob h3, h2⟩
theorem src_facts2 (E : Env g d s S0 w0 W bs vs) {F : Tree} {M : Nd} (hF : (F, M) ∈ vs) {d' : Nat} {R : List Tree × PS} {e : Ending} {w2 : World} (hp : PostL g d' W R e w2) :
    ∃ (S2 : Sl) (a : Option Addr) (n c : Nat) (w6 : World) (xs' : List Nd), e = .returned (.slice S2.a S2.n S2.c) ∧ Env g d' R.2 S0 w0 w2 bs vs ∧ (Builtin.append_ #[23, 23] 23 #[.slice (some ⟨w2.heap.size, 0, none⟩) 1 1, .slice S2.a S2.n S2.c]).run Tryz.prog (w2.alloc (.cells (ncells [M]).toArray 25)) = .ok (.slice a n c) w6 ∧ Env g d' R.2 S0 w0 w6 bs [] ∧ GrowX (Own S0 w0.heap.size (bs.map Prod.fst)) w0.heap.size w6 ([F] ++ R.1) xs' (.slice a n c) := by
  obtain ⟨v2, xs2, he, hgr, hl, ha, hg⟩ := hp
  have E2 := E.frame ha hg
  have G2 := GrowX.new (m := 1) (ts := [F]) (xs := [M]) (by unfold Reps; exact ⟨E2.rp _ hF, by unfold Reps; trivial⟩) E2.own_new E2.size rfl (by omega)
  have E3 := E2.alloc (.cells (ncells [M]).toArray 25)
  obtain ⟨S2, hv2, hrow, hrp⟩ := hgr.row
  subst hv2
  obtain ⟨a, n, c, w6, h1, h2, h3⟩ := grow_src G2 (hrow.1.alloc _) (Reps.keep (w := w2) (fun b hb hS => ⟨⟨E.lift hS, fun e => by simp [Value.ownBlock] at e; omega⟩, heap_alloc_old _ _ hb⟩) _ _ hrp) (fun b hb => E3.lift hb) E3.size (by simp) (by omega)
  exact ⟨S2, a, n, c, w6, _, he, E2, h1, E3.grownV (by decide) G2.own G2.ob h3, h2⟩
end
theorem sees_bad {s : PS} (h : OkS s) (hf : s.fault ≠ 0) (x : ByteArray) : seesF x s = false := by
  have hn : s.next = stopK := by unfold PS.next; rw [h.st hf]; rfl
  unfold seesF
  rw [hn]
  rfl
theorem rm_dot {L : Low} {c : Bool} {f : Nat} {n : Tree} {s : PS} (h : seesF ⟨#[46]⟩ s = true) : rmembF L c (f + 1) n s = rmembF L c f (.mk 15 0 (memF s.take).1 [] [n]) (memF s.take).2 := by
  conv => lhs; unfold rmembF
  rw [h]; rfl
theorem rm_idx {L : Low} {c : Bool} {f : Nat} {n : Tree} {s : PS} (h : seesF ⟨#[46]⟩ s = false) (h2 : seesF ⟨#[91]⟩ s = true) : rmembF L c (f + 1) n s = rmembF L c f (node 16 [n, (L.ex s.take).1]) (needsF ⟨#[93]⟩ (L.ex s.take).2) := by
  conv => lhs; unfold rmembF
  rw [h, h2]; rfl
theorem rm_call {L : Low} {f : Nat} {n : Tree} {s : PS} (h : seesF ⟨#[46]⟩ s = false) (h2 : seesF ⟨#[91]⟩ s = false) (h3 : seesF ⟨#[40]⟩ s = true) : rmembF L true (f + 1) n s = rmembF L true f (node 17 (n :: (rargsF L s).1)) (rargsF L s).2 := by
  conv => lhs; unfold rmembF
  rw [h, h2, h3]; rfl
theorem rm_end {L : Low} {c : Bool} {f : Nat} {n : Tree} {s : PS} (h : seesF ⟨#[46]⟩ s = false) (h2 : seesF ⟨#[91]⟩ s = false) (h3 : (c && seesF ⟨#[40]⟩ s) = false) : rmembF L c f n s = (n, s) := by
  cases f with
  | zero => rfl
  | succ f => unfold rmembF; rw [h, h2, h3]; rfl
theorem args_adv {L : Low} (h : LowA L) {s : PS} (hk : seesF ⟨#[40]⟩ s = true) : Adv s.take (rargsF L s).2 := by
  unfold rargsF
  have e : needsF ⟨#[40]⟩ s = s.take := by unfold needsF; rw [if_pos hk]
  rw [e]
  exact (rlist_adv h.ex _ _).trans (needs_adv _ _)
structure MI (L : Low) (c : Bool) (g d : Nat) (S : Nat → Prop) (w wr : World) (R : Tree × PS) (T : Tree) (N : Nd) (s : PS) (f : Nat) : Prop where
  env : Env g d s S w wr [(w.heap.size + 1, zeroN), (w.heap.size, N)] [(T, N)]
  fu : s.left.length ≤ f
  eq : R = rmembF L c f T s
set_option maxRecDepth 100000 in
set_option maxHeartbeats 4000000 in
theorem members_call {d : Nat} {L : Low} (hL : LowC d L) {g : Nat} {s : PS} {w : World} (h : At g d s w) {S : Nat → Prop} (hS : ∀ b, S b → b ≠ g) {F : Tree} {M : Nd} (hF : Rep S w F M) :
    Calls Tryz.prog 131 #[.pointer (some ⟨g, 0, none⟩), .agg (ncs M), .bool true] w (PostS S g d w (rmembF L true s.left.length F s)) := by
  have E0 := (((Env.startS h hS).arg hF).new M).newAt zeroN (b := w.heap.size + 1) (by simp)
  obtain ⟨R, hR⟩ : ∃ R, R = rmembF L true s.left.length F s := ⟨_, rfl⟩
  rw [← hR]
  have hst : MI L true g d S w ((w.alloc (.cells (ncs M) 25)).alloc (.cells (ncs zeroN) 25)) R F M s s.left.length := ⟨E0, Nat.le_refl _, hR⟩
  have HST := Lib.hid hst
  clear E0 h hS hF hR hst
  go_enter Tryz.func131, Tryz.ntmps131
  go_wp2
  go_loopw [] (fun wr => ∃ T N s f, MI L true g d S w wr R T N s f) (fun wr => measS g wr)
  case atStart => exact ⟨_, _, _, _, HST.out⟩
  case round =>
    obtain ⟨T, N, s', f, hI⟩ := hrel
    have hmeas := hI.env.at_.meas
    have HI := Lib.hid hI
    have hfu := hI.fu
    by_cases hf : s'.fault = 0
    · have x3 := hI.env.e30 hf
      rw [if_pos hf] at hmeas
      have hpos := hI.env.at_.ok.pos
      have HM := Lib.hid hmeas
      have HFF := Lib.hid hf
      clear hmeas
      cases k1 : seesF ⟨#[46]⟩ s' with
      | true =>
        clear hf
        have hadv0 := ad_take (mem_adv s'.take) hI.env.at_.ok (sees_kind k1)
        obtain ⟨f', rfl⟩ : ∃ f', f = f' + 1 := ⟨f - 1, by omega⟩
        have he := hI.eq
        rw [rm_dot k1] at he
        obtain ⟨X, hXe⟩ : ∃ X, memF s'.take = X := ⟨_, rfl⟩
        rw [hXe] at he hadv0
        have c0 := take_t hI.env.at_ k1
        have HE := Lib.hid he
        have HV := Lib.hid hadv0
        have HXE := Lib.hid hXe
        have HE0 := Lib.hid hI.env
        have HFU := Lib.hid hfu
        clear hI k1 he hadv0 hXe hfu hpos
        go_wp2_with ((go_at_call 79; (with_reducible refine c0.mono ?_); intro e w1 hp; obtain ⟨rfl, E1⟩ := HE0.out.call hp; have E1a := (E1.kids1 List.mem_cons_self 15 0 X.1).drew1; have E1 := E1.drew1; have l1 := E1.ld 1 rfl; have c1 := word_any E1.at_; have c1a := word_any E1a.at_; have HE1a := Lib.hid E1a; clear E1a; have HE1 := Lib.hid E1; clear hp E1))
        go_region_with (go_at_call 136; first | ((with_reducible refine c1a.mono ?_); intro e w2 hp; rw [HXE.out] at hp; obtain ⟨rfl, E2⟩ := HE1a.out.call hp; have s2 := E2.sto 1 rfl; have HF := Lib.hid ((E2.store 1 rfl ⟨15, 0, X.1, nilSl, newSl w1.heap.size 1⟩).only List.mem_cons_self); clear hp E2) | ((with_reducible refine c1.mono ?_); intro e w2 hp; rw [HXE.out] at hp; obtain ⟨rfl, E2⟩ := HE1.out.call hp; have l2 := E2.ld 1 rfl; have E3 := E2.kids1 List.mem_cons_self 15 0 X.1; have s2 := E3.sto 1 rfl; have HF := Lib.hid ((E3.store 1 rfl ⟨15, 0, X.1, nilSl, newSl w2.heap.size 1⟩).only List.mem_cons_self); clear hp E2 E3))
        all_goals (
          go_wp2
          go_roundw
          case rel => exact ⟨_, _, _, f', HF.out, by have := HV.out; have := HFU.out; omega, HE.out⟩
          case measure => rw [HF.out.at_.meas, HM.out]; have := HV.out; split <;> omega)
      | false =>
        cases k2 : seesF ⟨#[91]⟩ s' with
        | true =>
          clear hf
          have hadv0 := ad_take ((hL.ad.ex s'.take).trans (needs_adv ⟨#[93]⟩ _)) hI.env.at_.ok (sees_kind k2)
          obtain ⟨f', rfl⟩ : ∃ f', f = f' + 1 := ⟨f - 1, by omega⟩
          have he := hI.eq
          rw [rm_idx k1 k2] at he
          obtain ⟨X, hXe⟩ : ∃ X, L.ex s'.take = X := ⟨_, rfl⟩
          rw [hXe] at he hadv0
          have c0 := take_f hI.env.at_ k1
          have HK2 := Lib.hid k2
          have HE := Lib.hid he
          have HV := Lib.hid hadv0
          have HXE := Lib.hid hXe
          have HE0 := Lib.hid hI.env
          have HFU := Lib.hid hfu
          clear hI k1 k2 he hadv0 hXe hfu hpos
          go_wp2_with (first | (go_at_call 79; (with_reducible refine c0.mono ?_); intro e w1 hp; obtain ⟨rfl, E1⟩ := HE0.out.call hp; have c1 := take_t E1.at_ HK2.out; have HE1 := Lib.hid E1; clear hp E1) | (go_at_call 79; (with_reducible refine c1.mono ?_); intro e w3 hp; obtain ⟨rfl, E3⟩ := HE1.out.call hp; have c3 := hL.ex E3.at_; have HE3 := Lib.hid E3; clear hp E3) | (go_at_call 81; (with_reducible refine c3.mono ?_); intro e w4 hp; rw [HXE.out] at hp; obtain ⟨N4, rfl, E4⟩ := HE3.out.callN hp; have E4 := E4.new N4; have c4 := want_any E4.at_ ⟨#[93]⟩; have HE4 := Lib.hid E4; clear hp E4) | (go_at_call 82; (with_reducible refine c4.mono ?_); intro e w5 hp; obtain ⟨rfl, E5⟩ := HE4.out.call hp; have l5 := E5.ld 2 rfl; have l5a := E5.ld 0 rfl; have c5 := two_any (E5.rp _ (List.mem_cons_of_mem _ List.mem_cons_self)) (E5.rp _ List.mem_cons_self) 16 ⟨#[]⟩; have HE5 := Lib.hid E5; clear hp E5) | (go_at_call 105; (with_reducible refine c5.mono ?_); intro e w6 hp; obtain ⟨N6, rfl, E6⟩ := HE5.out.callO hp (fun b h => h); have s6 := E6.sto 2 rfl; have HF := Lib.hid ((E6.store 2 rfl N6).only List.mem_cons_self).drop; clear hp E6))
          go_roundw
          case rel => exact ⟨_, _, _, f', HF.out, by have := HV.out; have := HFU.out; omega, HE.out⟩
          case measure => rw [HF.out.at_.meas, HM.out]; have := HV.out; split <;> omega
        | false =>
          cases k3 : seesF ⟨#[40]⟩ s' with
          | true =>
            clear hf
            have hadv0 := ad_take (args_adv hL.ad k3) hI.env.at_.ok (sees_kind k3)
            obtain ⟨f', rfl⟩ : ∃ f', f = f' + 1 := ⟨f - 1, by omega⟩
            have he := hI.eq
            rw [rm_call k1 k2 k3] at he
            obtain ⟨X, hXe⟩ : ∃ X, rargsF L s' = X := ⟨_, rfl⟩
            rw [hXe] at he hadv0
            have c0 := take_f hI.env.at_ k1
            have HK2 := Lib.hid k2
            have HK3 := Lib.hid k3
            have HE := Lib.hid he
            have HV := Lib.hid hadv0
            have HXE := Lib.hid hXe
            have HE0 := Lib.hid hI.env
            have HFU := Lib.hid hfu
            clear hI k1 k2 k3 he hadv0 hXe hfu hpos
            go_wp2_with (first | (go_at_call 79; (with_reducible refine c0.mono ?_); intro e w1 hp; obtain ⟨rfl, E1⟩ := HE0.out.call hp; have c1 := take_f E1.at_ HK2.out; have HE1 := Lib.hid E1; clear hp E1) | (go_at_call 79; (with_reducible refine c1.mono ?_); intro e w2 hp; obtain ⟨rfl, E2⟩ := HE1.out.call hp; have c2 := is_any E2.at_ HFF.out ⟨#[40]⟩; rw [HK3.out] at c2; have HE2 := Lib.hid E2; clear hp E2) | (go_at_call 37; (with_reducible refine c2.mono ?_); intro e w3 hp; obtain ⟨rfl, E3⟩ := HE2.out.callR hp; have HG3 := Lib.hid (growx_drew (GrowX.new (m := 1) (ts := [T]) (xs := [N]) (by unfold Reps; exact ⟨E3.rp _ List.mem_cons_self, by unfold Reps; trivial⟩) E3.own_new E3.size rfl (by omega))); have E3a := (E3.kids1 List.mem_cons_self 17 0 noS).drew1; have E3 := E3.drew1; have l3 := E3.ld 1 rfl; have c3 := args_any hL E3.at_; have c3a := args_any hL E3a.at_; have HE3a := Lib.hid E3a; clear E3a; have HE3 := Lib.hid E3; clear hp E3))
            go_region_law (first | (go_simp; go_at_call 133; first | ((with_reducible refine c3a.mono ?_); intro e w4 hp; rw [HXE.out] at hp; obtain ⟨S2, a6, n6, cc6, w6, xs6, rfl, E4, hrun, E6, G6⟩ := src_facts HE3a.out HG3.out hp (by simp); have E7 := E6.ofGrow G6 17 0 noS; have s7 := E7.sto 1 rfl; have HF := Lib.hid ((E7.store 1 rfl (kidN 17 ⟨a6, n6, cc6⟩)).only List.mem_cons_self); clear hp E4 E6 G6 E7; dsimp only) | ((with_reducible refine c3.mono ?_); intro e w4 hp; rw [HXE.out] at hp; obtain ⟨S2, a6, n6, cc6, w6, xs6, rfl, E4, hrun, E6, G6⟩ := src_facts2 HE3.out List.mem_cons_self hp; have E7 := E6.ofGrow G6 17 0 noS; have l4 := E4.ld 1 rfl; have s7 := E7.sto 1 rfl; have HF := Lib.hid ((E7.store 1 rfl (kidN 17 ⟨a6, n6, cc6⟩)).only List.mem_cons_self); clear hp E4 E6 G6 E7; dsimp only)) | (refine step_app rfl (.tmp 39) (.tmp 41) 23 rfl rfl _ _ _ (by simp [Act.eval, Act.put]) (by simp [Act.eval, Act.put]) hrun ?_))
            all_goals (
              go_wp2
              go_roundw
              case rel => exact ⟨_, _, _, f', HF.out, by have := HV.out; have := HFU.out; omega, HE.out⟩
              case measure => rw [HF.out.at_.meas, HM.out]; have := HV.out; split <;> omega)
          | false =>
            have he := hI.eq
            rw [rm_end k1 k2 (by rw [k3]; rfl)] at he
            have c0 := take_f hI.env.at_ k1
            have HK2 := Lib.hid k2
            have HK3 := Lib.hid k3
            have HE := Lib.hid he
            have HE0 := Lib.hid hI.env
            clear hI k1 k2 k3 he hf hpos
            go_wp2_with (first | (go_at_call 79; (with_reducible refine c0.mono ?_); intro e w1 hp; obtain ⟨rfl, E1⟩ := HE0.out.call hp; have c1 := take_f E1.at_ HK2.out; have HE1 := Lib.hid E1; clear hp E1) | (go_at_call 79; (with_reducible refine c1.mono ?_); intro e w2 hp; obtain ⟨rfl, E2⟩ := HE1.out.call hp; have c2 := is_any E2.at_ HFF.out ⟨#[40]⟩; rw [HK3.out] at c2; have HE2 := Lib.hid E2; clear hp E2) | (go_at_call 37; (with_reducible refine c2.mono ?_); intro e w3 hp; obtain ⟨rfl, E3⟩ := HE2.out.callR hp; have l3 := E3.ld 1 rfl; have s3 := E3.sto 0 rfl; have HE3 := Lib.hid E3; clear hp E3))
            rw [HE.out]
            exact ((HE3.out.store 0 rfl _).fin List.mem_cons_self List.mem_cons_self rfl rfl)
    · have hq : (s'.fault == 0) = false := by simpa using hf
      have x3 := hI.env.e3
      have he := hI.eq
      have k := sees_bad hI.env.at_.ok hf
      rw [rm_end (k _) (k _) (by rw [k]; rfl)] at he
      have l1 := hI.env.ld 1 rfl
      have s1 := hI.env.sto 0 rfl
      have HE := Lib.hid he
      have HE0 := Lib.hid hI.env
      clear hI k he hf hmeas
      go_wp2
      rw [HE.out]
      exact ((HE0.out.store 0 rfl _).fin List.mem_cons_self List.mem_cons_self rfl rfl)
set_option maxRecDepth 100000 in
set_option maxHeartbeats 4000000 in
theorem members_plain {d : Nat} {L : Low} (hL : LowC d L) {g : Nat} {s : PS} {w : World} (h : At g d s w) {S : Nat → Prop} (hS : ∀ b, S b → b ≠ g) {F : Tree} {M : Nd} (hF : Rep S w F M) :
    Calls Tryz.prog 131 #[.pointer (some ⟨g, 0, none⟩), .agg (ncs M), .bool false] w (PostS S g d w (rmembF L false s.left.length F s)) := by
  have E0 := (((Env.startS h hS).arg hF).new M).newAt zeroN (b := w.heap.size + 1) (by simp)
  obtain ⟨R, hR⟩ : ∃ R, R = rmembF L false s.left.length F s := ⟨_, rfl⟩
  rw [← hR]
  have hst : MI L false g d S w ((w.alloc (.cells (ncs M) 25)).alloc (.cells (ncs zeroN) 25)) R F M s s.left.length := ⟨E0, Nat.le_refl _, hR⟩
  have HST := Lib.hid hst
  clear E0 h hS hF hR hst
  go_enter Tryz.func131, Tryz.ntmps131
  go_wp2
  go_loopw [] (fun wr => ∃ T N s f, MI L false g d S w wr R T N s f) (fun wr => measS g wr)
  case atStart => exact ⟨_, _, _, _, HST.out⟩
  case round =>
    obtain ⟨T, N, s', f, hI⟩ := hrel
    have hmeas := hI.env.at_.meas
    have HI := Lib.hid hI
    have hfu := hI.fu
    by_cases hf : s'.fault = 0
    · have x3 := hI.env.e30 hf
      rw [if_pos hf] at hmeas
      have hpos := hI.env.at_.ok.pos
      have HM := Lib.hid hmeas
      have HFF := Lib.hid hf
      clear hmeas
      cases k1 : seesF ⟨#[46]⟩ s' with
      | true =>
        clear hf
        have hadv0 := ad_take (mem_adv s'.take) hI.env.at_.ok (sees_kind k1)
        obtain ⟨f', rfl⟩ : ∃ f', f = f' + 1 := ⟨f - 1, by omega⟩
        have he := hI.eq
        rw [rm_dot k1] at he
        obtain ⟨X, hXe⟩ : ∃ X, memF s'.take = X := ⟨_, rfl⟩
        rw [hXe] at he hadv0
        have c0 := take_t hI.env.at_ k1
        have HE := Lib.hid he
        have HV := Lib.hid hadv0
        have HXE := Lib.hid hXe
        have HE0 := Lib.hid hI.env
        have HFU := Lib.hid hfu
        clear hI k1 he hadv0 hXe hfu hpos
        go_wp2_with ((go_at_call 79; (with_reducible refine c0.mono ?_); intro e w1 hp; obtain ⟨rfl, E1⟩ := HE0.out.call hp; have E1a := (E1.kids1 List.mem_cons_self 15 0 X.1).drew1; have E1 := E1.drew1; have l1 := E1.ld 1 rfl; have c1 := word_any E1.at_; have c1a := word_any E1a.at_; have HE1a := Lib.hid E1a; clear E1a; have HE1 := Lib.hid E1; clear hp E1))
        go_region_with (go_at_call 136; first | ((with_reducible refine c1a.mono ?_); intro e w2 hp; rw [HXE.out] at hp; obtain ⟨rfl, E2⟩ := HE1a.out.call hp; have s2 := E2.sto 1 rfl; have HF := Lib.hid ((E2.store 1 rfl ⟨15, 0, X.1, nilSl, newSl w1.heap.size 1⟩).only List.mem_cons_self); clear hp E2) | ((with_reducible refine c1.mono ?_); intro e w2 hp; rw [HXE.out] at hp; obtain ⟨rfl, E2⟩ := HE1.out.call hp; have l2 := E2.ld 1 rfl; have E3 := E2.kids1 List.mem_cons_self 15 0 X.1; have s2 := E3.sto 1 rfl; have HF := Lib.hid ((E3.store 1 rfl ⟨15, 0, X.1, nilSl, newSl w2.heap.size 1⟩).only List.mem_cons_self); clear hp E2 E3))
        all_goals (
          go_wp2
          go_roundw
          case rel => exact ⟨_, _, _, f', HF.out, by have := HV.out; have := HFU.out; omega, HE.out⟩
          case measure => rw [HF.out.at_.meas, HM.out]; have := HV.out; split <;> omega)
      | false =>
        cases k2 : seesF ⟨#[91]⟩ s' with
        | true =>
          clear hf
          have hadv0 := ad_take ((hL.ad.ex s'.take).trans (needs_adv ⟨#[93]⟩ _)) hI.env.at_.ok (sees_kind k2)
          obtain ⟨f', rfl⟩ : ∃ f', f = f' + 1 := ⟨f - 1, by omega⟩
          have he := hI.eq
          rw [rm_idx k1 k2] at he
          obtain ⟨X, hXe⟩ : ∃ X, L.ex s'.take = X := ⟨_, rfl⟩
          rw [hXe] at he hadv0
          have c0 := take_f hI.env.at_ k1
          have HK2 := Lib.hid k2
          have HE := Lib.hid he
          have HV := Lib.hid hadv0
          have HXE := Lib.hid hXe
          have HE0 := Lib.hid hI.env
          have HFU := Lib.hid hfu
          clear hI k1 k2 he hadv0 hXe hfu hpos
          go_wp2_with (first | (go_at_call 79; (with_reducible refine c0.mono ?_); intro e w1 hp; obtain ⟨rfl, E1⟩ := HE0.out.call hp; have c1 := take_t E1.at_ HK2.out; have HE1 := Lib.hid E1; clear hp E1) | (go_at_call 79; (with_reducible refine c1.mono ?_); intro e w3 hp; obtain ⟨rfl, E3⟩ := HE1.out.call hp; have c3 := hL.ex E3.at_; have HE3 := Lib.hid E3; clear hp E3) | (go_at_call 81; (with_reducible refine c3.mono ?_); intro e w4 hp; rw [HXE.out] at hp; obtain ⟨N4, rfl, E4⟩ := HE3.out.callN hp; have E4 := E4.new N4; have c4 := want_any E4.at_ ⟨#[93]⟩; have HE4 := Lib.hid E4; clear hp E4) | (go_at_call 82; (with_reducible refine c4.mono ?_); intro e w5 hp; obtain ⟨rfl, E5⟩ := HE4.out.call hp; have l5 := E5.ld 2 rfl; have l5a := E5.ld 0 rfl; have c5 := two_any (E5.rp _ (List.mem_cons_of_mem _ List.mem_cons_self)) (E5.rp _ List.mem_cons_self) 16 ⟨#[]⟩; have HE5 := Lib.hid E5; clear hp E5) | (go_at_call 105; (with_reducible refine c5.mono ?_); intro e w6 hp; obtain ⟨N6, rfl, E6⟩ := HE5.out.callO hp (fun b h => h); have s6 := E6.sto 2 rfl; have HF := Lib.hid ((E6.store 2 rfl N6).only List.mem_cons_self).drop; clear hp E6))
          go_roundw
          case rel => exact ⟨_, _, _, f', HF.out, by have := HV.out; have := HFU.out; omega, HE.out⟩
          case measure => rw [HF.out.at_.meas, HM.out]; have := HV.out; split <;> omega
        | false =>
          have he := hI.eq
          rw [rm_end k1 k2 rfl] at he
          have c0 := take_f hI.env.at_ k1
          have HK2 := Lib.hid k2
          have HE := Lib.hid he
          have HE0 := Lib.hid hI.env
          clear hI k1 k2 he hf hpos
          go_wp2_with (first | (go_at_call 79; (with_reducible refine c0.mono ?_); intro e w1 hp; obtain ⟨rfl, E1⟩ := HE0.out.call hp; have c1 := take_f E1.at_ HK2.out; have HE1 := Lib.hid E1; clear hp E1) | (go_at_call 79; (with_reducible refine c1.mono ?_); intro e w2 hp; obtain ⟨rfl, E2⟩ := HE1.out.call hp; have l2 := E2.ld 1 rfl; have s2 := E2.sto 0 rfl; have HE2 := Lib.hid E2; clear hp E2))
          rw [HE.out]
          exact ((HE2.out.store 0 rfl _).fin List.mem_cons_self List.mem_cons_self rfl rfl)
    · have hq : (s'.fault == 0) = false := by simpa using hf
      have x3 := hI.env.e3
      have he := hI.eq
      have k := sees_bad hI.env.at_.ok hf
      rw [rm_end (k _) (k _) (by rw [k]; rfl)] at he
      have l1 := hI.env.ld 1 rfl
      have s1 := hI.env.sto 0 rfl
      have HE := Lib.hid he
      have HE0 := Lib.hid hI.env
      clear hI k he hf hmeas
      go_wp2
      rw [HE.out]
      exact ((HE0.out.store 0 rfl _).fin List.mem_cons_self List.mem_cons_self rfl rfl)
end Go.Proofs.YtinoaajohkafmaaGreat.Rp

/-
  Plain mathematics: the reference's parser gives what the program's gives, second part.
-/
namespace Go.Proofs.YtinoaajohkafmaaGreat.Rp
open Go.Proofs.YtinoaajohkafmaaGreat.Pa
open Go.Proofs.YtinoaajohkafmaaGreat.Lx
set_option linter.unusedVariables false
set_option linter.unusedSimpArgs false
section
variable {L M : Low}
theorem sees_len {x : ByteArray} {s : PS} (hs : OkS s) (h : seesF x s = true) : s.take.left.length + 1 = s.left.length := (hs.take (sees_kind h)).2
theorem mem_eq0 (h : LowEq L M) (hM : LowA M) : ∀ f n n' s, OkS s → ((membersF M f n' s).2.fault = 0 → n = n') → Eqv (rmembF L false f n s) (membersF M f n' s)
  | 0, n, n', s, hs, hn => ⟨rfl, hn⟩
  | f + 1, n, n', s, hs, hn => by
    unfold rmembF membersF
    unfold membersF at hn
    by_cases hh : seesF ⟨#[46]⟩ s = true
    · rw [if_pos hh] at hn
      rw [if_pos hh, if_pos hh]
      have o1 := ((take_adv (sees_kind hh)).trans (mem_adv _) hs).1
      refine mem_eq0 h hM f _ _ _ o1 (fun hf => ?_)
      rw [hn hf]
    · rw [if_neg hh] at hn
      rw [if_neg hh, if_neg hh]
      by_cases h2 : seesF ⟨#[91]⟩ s = true
      · rw [if_pos h2] at hn
        rw [if_pos h2, if_pos h2]
        have o1 := (take_adv (sees_kind h2) hs).1
        have e1 := h.ex _ o1
        have o2 := ((hM.ex _).nd (x := ⟨#[93]⟩) o1).1
        simp only at hn ⊢
        rw [e1.1]
        refine mem_eq0 h hM f _ _ _ o2 (fun hf => ?_)
        have f2 := back (membs_adv hM _ _ _) o2 hf
        rw [hn hf, e1.2 (back (needs_adv _ _) ((hM.ex _) o1).1 f2)]
      · rw [if_neg h2] at hn
        rw [if_neg h2, if_neg h2, if_neg (by simp)]
        exact ⟨rfl, hn⟩
def tailF (M : Low) (k g : Nat) (n : Tree) (s : PS) : Tree × PS := callLoop M g (membersF M k n s).1 (membersF M k n s).2
theorem tail_adv (hM : LowA M) (k g : Nat) (n : Tree) (s : PS) : Adv s (tailF M k g n s).2 := (membs_adv hM k n s).trans (calll_adv hM _ _ _)
theorem mem_eq1 (h : LowEq L M) (hM : LowA M) : ∀ f n n' s k g, OkS s → s.left.length ≤ f → s.left.length ≤ k → (membersF M k n' s).2.left.length ≤ g → ((tailF M k g n' s).2.fault = 0 → n = n') → Eqv (rmembF L true f n s) (tailF M k g n' s)
  | 0, n, n', s, k, g, hs, hf, _, _, _ => by have := hs.pos; omega
  | f + 1, n, n', s, 0, g, hs, _, hk, _, _ => by have := hs.pos; omega
  | f + 1, n, n', s, k + 1, g, hs, hf, hk, hg, hn => by
    unfold rmembF
    by_cases h1 : seesF ⟨#[46]⟩ s = true
    · rw [if_pos h1]
      have e : ∀ n', membersF M (k + 1) n' s = membersF M k (.mk 15 0 (memF s.take).1 [] [n']) (memF s.take).2 := fun n' => by rw [membersF, if_pos h1]
      have e2 : ∀ n', tailF M (k + 1) g n' s = tailF M k g (.mk 15 0 (memF s.take).1 [] [n']) (memF s.take).2 := fun n' => by unfold tailF; rw [e]
      have o1 := (take_adv (sees_kind h1) hs).1
      have l1 := sees_len hs h1
      have a2 := mem_adv s.take o1
      rw [e2] at hn ⊢
      rw [e] at hg
      exact mem_eq1 h hM f _ _ _ k g a2.1 (by have := a2.2.1; omega) (by have := a2.2.1; omega) hg (fun hf => by rw [hn hf])
    · rw [if_neg h1]
      by_cases h2 : seesF ⟨#[91]⟩ s = true
      · rw [if_pos h2]
        have e : ∀ n', membersF M (k + 1) n' s = membersF M k (node 16 [n', (M.ex s.take).1]) (needsF ⟨#[93]⟩ (M.ex s.take).2) := fun n' => by rw [membersF, if_neg h1, if_pos h2]
        have e2 : ∀ n', tailF M (k + 1) g n' s = tailF M k g (node 16 [n', (M.ex s.take).1]) (needsF ⟨#[93]⟩ (M.ex s.take).2) := fun n' => by unfold tailF; rw [e]
        have o1 := (take_adv (sees_kind h2) hs).1
        have l1 := sees_len hs h2
        have e1 := h.ex _ o1
        have a2 := (hM.ex s.take).nd (x := ⟨#[93]⟩) o1
        rw [e2] at hn ⊢
        rw [e] at hg
        simp only
        rw [e1.1]
        refine mem_eq1 h hM f _ _ _ k g a2.1 (by have := a2.2.1; omega) (by have := a2.2.1; omega) hg (fun hf => ?_)
        have f2 := back (tail_adv hM _ _ _ _) a2.1 hf
        rw [hn hf, e1.2 (back (needs_adv _ _) ((hM.ex _) o1).1 f2)]
      · rw [if_neg h2]
        have e : ∀ n', membersF M (k + 1) n' s = (n', s) := fun n' => by rw [membersF, if_neg h1, if_neg h2]
        have e2 : ∀ n', tailF M (k + 1) g n' s = callLoop M g n' s := fun n' => by unfold tailF; rw [e]
        rw [e2] at hn ⊢
        rw [e] at hg
        simp only at hg
        by_cases h3 : seesF ⟨#[40]⟩ s = true
        · rw [if_pos (by rw [h3]; rfl)]
          obtain ⟨g, rfl⟩ : ∃ q, g = q + 1 := ⟨g - 1, by have := hs.pos; omega⟩
          have l1 := sees_len hs h3
          have o1 := (take_adv (sees_kind h3) hs).1
          have en : needsF ⟨#[40]⟩ s = s.take := by unfold needsF; rw [if_pos h3]
          have ac : ∀ n, Adv s.take (calledF M 17 n s).2 := fun n => by
            unfold calledF
            rw [en]
            exact list_adv hM.ex _ _
          have e3 : ∀ n', callLoop M (g + 1) n' s = tailF M (calledF M 17 n' s).2.left.length g (calledF M 17 n' s).1 (calledF M 17 n' s).2 := fun n' => by
            rw [callLoop, if_pos h3]
            rfl
          have a2 := ac n' o1
          rw [e3] at hn ⊢
          have ea := args_eq h hM s hs
          have es : (rargsF L s).2 = (calledF M 17 n' s).2 := ea.1
          have am := (membs_adv hM (calledF M 17 n' s).2.left.length (calledF M 17 n' s).1 (calledF M 17 n' s).2 a2.1).2.1
          simp only
          rw [es]
          refine mem_eq1 h hM f _ _ _ _ g a2.1 (by have := a2.2.1; omega) (Nat.le_refl _) (by have := a2.2.1; omega) (fun hf => ?_)
          have f2 : (listF ⟨#[41]⟩ M.ex (needsF ⟨#[40]⟩ s)).2.fault = 0 := back (tail_adv hM _ _ _ _) a2.1 hf
          rw [hn hf, ea.2 f2]
          rfl
        · rw [if_neg (by simp [h3])]
          have e4 : ∀ g n', callLoop M g n' s = (n', s) := fun g n' => by
            cases g with
            | zero => rfl
            | succ g => rw [callLoop, if_neg h3]
          rw [e4] at hn ⊢
          exact ⟨rfl, hn⟩
theorem post_eq (h : LowEq L M) (hM : LowA M) (s : PS) (hs : OkS s) : Eqv (rpostF L s) (chainF M s) := by
  unfold rpostF chainF baseF
  by_cases h1 : seesF ⟨#[110, 101, 119]⟩ s = true
  · rw [if_pos h1, if_pos h1]
    have o1 := (take_adv (sees_kind h1) hs).1
    have e1 := prim_eq h hM _ o1
    have o2 := (prim_adv hM _ o1).1
    simp only
    rw [e1.1]
    have e2 := mem_eq0 h hM (primF M s.take).2.left.length (rprimF L s.take).1 (primF M s.take).1 _ o2 (fun hf => e1.2 (back (membs_adv hM _ _ _) o2 hf))
    have o3 := (membs_adv hM (primF M s.take).2.left.length (primF M s.take).1 _ o2).1
    have e2a := e2.1
    unfold membF
    rw [e2a]
    have ea := args_eq h hM _ o3
    have es : (rargsF L (membersF M (primF M s.take).2.left.length (primF M s.take).1 (primF M s.take).2).2).2 = (calledF M 18 (membersF M (primF M s.take).2.left.length (primF M s.take).1 (primF M s.take).2).1 (membersF M (primF M s.take).2.left.length (primF M s.take).1 (primF M s.take).2).2).2 := ea.1
    have o4 := (called_adv hM 18 (membersF M (primF M s.take).2.left.length (primF M s.take).1 (primF M s.take).2).1 _ o3).1
    rw [es]
    refine mem_eq1 h hM _ _ _ _ _ _ o4 (Nat.le_refl _) (Nat.le_refl _) (Nat.le_refl _) (fun hf => ?_)
    have f4 := back (tail_adv hM _ _ _ _) o4 hf
    have f3 := back (called_adv hM _ _ _) o3 f4
    have f4' : (listF ⟨#[41]⟩ M.ex (needsF ⟨#[40]⟩ (membersF M (primF M s.take).2.left.length (primF M s.take).1 (primF M s.take).2).2)).2.fault = 0 := f4
    rw [ea.2 f4', e2.2 f3]
    rfl
  · rw [if_neg h1, if_neg h1]
    have e1 := prim_eq h hM _ hs
    have o2 := (prim_adv hM _ hs).1
    simp only
    rw [e1.1]
    exact mem_eq1 h hM _ _ _ _ _ _ o2 (Nat.le_refl _) (Nat.le_refl _) (Nat.le_refl _) (fun hf => e1.2 (back (tail_adv hM _ _ _ _) o2 hf))
theorem un_eq (h : LowEq L M) (hM : LowA M) (s : PS) (hs : OkS s) : Eqv (runF L s) (unF M s) := by
  unfold runF unF
  by_cases h1 : seesOneF prefixT s = true
  · rw [if_pos h1, if_pos h1]
    have o1 := (take_adv (one_kind h1) hs).1
    have e1 := h.un _ o1
    simp only
    rw [e1.1]
    by_cases hf1 : (M.un s.take).2.fault = 0
    · rw [e1.2 hf1]; exact Eqv.rfl' _
    · have hfl : (M.un s.take).2.fail 2 = (M.un s.take).2 := by unfold PS.fail; rw [if_neg hf1]
      rw [hfl]
      refine ⟨by simp, fun hf => ?_⟩
      simp at hf
      exact absurd hf hf1
  · rw [if_neg h1, if_neg h1]
    exact post_eq h hM s hs
theorem let_eq (h : LowEq L M) (hM : LowA M) (s : PS) (hs : OkS s) : Eqv (letF L s) (letF M s) := by
  unfold letF
  simp only
  split
  · rename_i hh
    have o1 := (((name_adv s).tk hh) hs).1
    have e := h.ex _ o1
    refine ⟨e.1, fun hf => ?_⟩
    simp only at hf ⊢
    rw [e.2 hf]
  · exact Eqv.rfl' _
theorem const_eq (h : LowEq L M) (hM : LowA M) (s : PS) (hs : OkS s) : Eqv (constF L s) (constF M s) := by
  unfold constF
  have o1 := ((name_adv s).nd (x := ⟨#[61]⟩) hs).1
  have e := h.ex _ o1
  refine ⟨e.1, fun hf => ?_⟩
  simp only at hf ⊢
  rw [e.2 hf]
theorem simp_eq (h : LowEq L M) (hM : LowA M) (s : PS) (hs : OkS s) : Eqv (simpF L s) (simpF M s) := by
  unfold simpF
  split
  · exact Eqv.rfl' _
  split
  · exact let_eq h hM _ (take_adv (sees_kind (by assumption)) hs).1
  split
  · exact const_eq h hM _ (take_adv (sees_kind (by assumption)) hs).1
  split
  · rename_i hh
    split
    · exact Eqv.rfl' _
    · have e := h.ex _ (take_adv (sees_kind hh) hs).1
      refine ⟨e.1, fun hf => ?_⟩
      simp only at hf ⊢
      rw [e.2 hf]
  split
  · rename_i hh
    have e := h.ex _ (take_adv (sees_kind hh) hs).1
    refine ⟨e.1, fun hf => ?_⟩
    simp only at hf ⊢
    rw [e.2 hf]
  split
  · exact Eqv.rfl' _
  split
  · exact Eqv.rfl' _
  · have e := h.ex _ hs
    refine ⟨e.1, fun hf => ?_⟩
    simp only at hf ⊢
    rw [e.2 hf]
theorem choice_eq (h : LowEq L M) (hM : LowA M) (s : PS) (hs : OkS s) : Eqv (choiceF L s) (choiceF M s) := by
  unfold choiceF
  have e1 := paren_eq h hM s hs
  have o1 := (paren_adv hM s hs).1
  simp only
  rw [e1.1]
  have e2 := h.st _ o1
  have o2 := (hM.st _ o1).1
  rw [e2.1]
  split
  · rename_i hh
    have o3 := (take_adv (sees_kind hh) o2).1
    have e3 := h.st _ o3
    refine ⟨e3.1, fun hf => ?_⟩
    simp only at hf ⊢
    have f2 := back ((take_adv (sees_kind hh)).trans (hM.st _)) o2 hf
    rw [e3.2 hf, e2.2 f2, e1.2 (back (hM.st _) o1 f2)]
  · refine ⟨rfl, fun hf => ?_⟩
    simp only at hf ⊢
    rw [e2.2 hf, e1.2 (back (hM.st _) o1 hf)]
theorem hand_eq (h : LowEq L M) (hM : LowA M) (s : PS) (hs : OkS s) : Eqv (handF L s) (handF M s) := by
  unfold handF
  have o := (((needs_adv ⟨#[40]⟩ s).by name_adv).nd (x := ⟨#[41]⟩) hs).1
  have e := block_eq h hM _ o
  refine ⟨e.1, fun hf => ?_⟩
  simp only at hf ⊢
  rw [e.2 hf]
theorem try_eq (h : LowEq L M) (hM : LowA M) (s : PS) (hs : OkS s) : Eqv (tryF L s) (tryF M s) := by
  unfold tryF
  have e1 := block_eq h hM s hs
  have o1 := (block_adv hM s hs).1
  simp only
  rw [e1.1]
  by_cases hc : seesF ⟨#[99, 97, 116, 99, 104]⟩ (blockF M s).2 = true
  · rw [if_pos hc, if_pos hc]
    have f1 : (blockF M s).2.fault = 0 := o1.live (fun e => (sees_kind hc) (.inr e))
    rw [e1.2 f1]
    have o2 := (take_adv (sees_kind hc) o1).1
    have e2 := hand_eq h hM _ o2
    have o3 := (hand_adv hM _ o2).1
    rw [e2.1]
    by_cases hd : seesF ⟨#[102, 105, 110, 97, 108, 108, 121]⟩ (handF M (blockF M s).2.take).2 = true
    · rw [if_pos hd, if_pos hd]
      have f2 : (handF M (blockF M s).2.take).2.fault = 0 := o3.live (fun e => (sees_kind hd) (.inr e))
      rw [e2.2 f2]
      have e3 := block_eq h hM _ (take_adv (sees_kind hd) o3).1
      refine ⟨e3.1, fun hf => ?_⟩
      simp only at hf ⊢
      rw [e3.2 hf]
    · rw [if_neg hd, if_neg hd]
      refine ⟨rfl, fun hf => ?_⟩
      simp only at hf ⊢
      rw [e2.2 hf]
  · rw [if_neg hc, if_neg hc]
    by_cases hd : seesF ⟨#[102, 105, 110, 97, 108, 108, 121]⟩ (blockF M s).2 = true
    · rw [if_pos hd, if_pos hd]
      have f1 : (blockF M s).2.fault = 0 := o1.live (fun e => (sees_kind hd) (.inr e))
      rw [e1.2 f1]
      have e3 := block_eq h hM _ (take_adv (sees_kind hd) o1).1
      refine ⟨e3.1, fun hf => ?_⟩
      simp only at hf ⊢
      rw [e3.2 hf]
    · rw [if_neg hd, if_neg hd]
      refine ⟨rfl, fun hf => ?_⟩
      simp only at hf ⊢
      rw [e1.2 (back (fail_adv _ (by decide)) o1 hf)]
theorem st_eq (h : LowEq L M) (hM : LowA M) (s : PS) (hs : OkS s) : Eqv (rstF L s) (stF M s) := by
  unfold rstF stF
  split
  · exact block_eq h hM s hs
  split
  · rename_i hh
    have o1 := (((take_adv (sees_kind hh)).by name_adv) hs).1
    have e := func_eq h hM (nameF s.take).1 _ o1
    refine ⟨e.1, fun hf => ?_⟩
    simp only at hf ⊢
    rw [e.2 hf]
  split
  · exact choice_eq h hM _ (take_adv (sees_kind (by assumption)) hs).1
  split
  · rename_i hh
    have o1 := (take_adv (sees_kind hh) hs).1
    have e1 := paren_eq h hM _ o1
    have o2 := (paren_adv hM _ o1).1
    have e2 := h.st _ o2
    simp only
    rw [e1.1]
    refine ⟨e2.1, fun hf => ?_⟩
    simp only at hf ⊢
    rw [e2.2 hf, e1.2 (back (hM.st _) o2 hf)]
  split
  · exact try_eq h hM _ (take_adv (sees_kind (by assumption)) hs).1
  · have e := simp_eq h hM s hs
    have o := (simp_adv hM s hs).1
    simp only
    rw [e.1]
    exact ⟨rfl, fun hf => e.2 (back (needs_adv _ _) o hf)⟩
end
end Go.Proofs.YtinoaajohkafmaaGreat.Rp
