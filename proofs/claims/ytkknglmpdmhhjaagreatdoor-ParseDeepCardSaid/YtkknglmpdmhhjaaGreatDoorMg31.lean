/-
  Texts of this seat in build order: PaMemb, PaBin, PaChain.
-/
import Derived.Test.YtkknglmpdmhhjaaGreatDoorMg29
import Derived.Deep.RegionLaw
import Derived.Test.YtkknglmpdmhhjaaGreatDoorMg30
/-
  members.
-/
namespace Go.Proofs.YtkknglmpdmhhjaaGreatDoor.Pa
open Go Go.RowKit Go.Proofs.YtkknglmpdmhhjaaGreatDoor.Lx Go.Proofs.YtkknglmpdmhhjaaGreatDoor.Uni
set_option linter.unusedVariables false
set_option linter.unusedSimpArgs false
attribute [local go_sem ↓] ldK stK alK bdK bsK ldN stN alN bdN bsN
attribute [local irreducible] kcs ncs ncells
attribute [local go_sem] run_alK run_bdK0 run_bdKs run_bdKn run_bdKe run_bsK run_fdK0 run_fdK1 run_fdK2 run_fdK3 run_fdN4 run_alN run_stNg run_ldNg run_bdN0 run_bdN04 run_bdN02 run_bdN01 run_bdN024 run_bdN03 run_bdN0234 run_bsN1 run_bsN2 run_bsN3

theorem memb_dot {L : Low} {f : Nat} {n : Tree} {s : PS} (h : seesF ⟨#[46]⟩ s = true) : membersF L (f + 1) n s = membersF L f (.mk 15 0 (memF s.take).1 [] [n]) (memF s.take).2 := by
  conv => lhs; unfold membersF
  rw [h]; rfl
theorem memb_idx {L : Low} {f : Nat} {n : Tree} {s : PS} (h : seesF ⟨#[46]⟩ s = false) (h2 : seesF ⟨#[91]⟩ s = true) : membersF L (f + 1) n s = membersF L f (node 16 [n, (L.ex s.take).1]) (needsF ⟨#[93]⟩ (L.ex s.take).2) := by
  conv => lhs; unfold membersF
  rw [h, h2]; rfl
theorem memb_end {L : Low} {f : Nat} {n : Tree} {s : PS} (h : seesF ⟨#[46]⟩ s = false) (h2 : seesF ⟨#[91]⟩ s = false) : membersF L f n s = (n, s) := by
  cases f with
  | zero => rfl
  | succ f => unfold membersF; rw [h, h2]; rfl
structure MI (L : Low) (g d : Nat) (S : Nat → Prop) (w wr : World) (R : Tree × PS) (T : Tree) (N : Nd) (s : PS) (f : Nat) : Prop where
  env : Env g d s S w wr [(w.heap.size + 1, zeroN), (w.heap.size, N)] [(T, N)]
  fu : s.left.length ≤ f
  eq : R = membersF L f T s

set_option maxRecDepth 100000 in
set_option maxHeartbeats 4000000 in
theorem members_any {d : Nat} {L : Low} (hL : LowC d L) {g : Nat} {s : PS} {w : World} (h : At g d s w) (hX : Gx g w) {S : Nat → Prop} (hS : ∀ b, S b → b ≠ g) {F : Tree} {M : Nd} (hF : Rep S w F M) :
    Calls Tryz.prog 256 #[.pointer (some ⟨g, 0, none⟩), .agg (ncs M)] w (PostS S g d w (membF L F s)) := by
  have E0 := (((Env.startS h hX hS).arg hF).new M).newAt zeroN (b := w.heap.size + 1) (by simp)
  unfold membF
  obtain ⟨R, hR⟩ : ∃ R, R = membersF L s.left.length F s := ⟨_, rfl⟩
  rw [← hR]
  have hst : MI L g d S w ((w.alloc (.cells (ncs M) 27)).alloc (.cells (ncs zeroN) 27)) R F M s s.left.length := ⟨E0, Nat.le_refl _, hR⟩
  have HST := Lib.hid hst
  clear E0 h hX hS hF hR hst
  go_enter Tryz.func256, Tryz.ntmps256
  go_wp2
  go_loopw [] (fun wr => ∃ T N s f, MI L g d S w wr R T N s f) (fun wr => lenOf g wr)
  case atStart => exact ⟨_, _, _, _, HST.out⟩
  case round =>
    obtain ⟨T, N, s', f, hI⟩ := hrel
    have hlen := hI.env.at_.len
    have HI := Lib.hid hI
    have hpos := hI.env.at_.ok.pos
    have hfu := hI.fu
    cases k1 : seesF ⟨#[46]⟩ s' with
    | true =>
      obtain ⟨q1, q2⟩ := hI.env.at_.ok.take (sees_kind k1)
      obtain ⟨f', rfl⟩ : ∃ f', f = f' + 1 := ⟨f - 1, by omega⟩
      have he := hI.eq
      rw [memb_dot k1] at he
      have hadv := mem_adv s'.take q1
      obtain ⟨X, hXe⟩ : ∃ X, memF s'.take = X := ⟨_, rfl⟩
      rw [hXe] at he hadv
      have c0 := takes_t hI.env.at_ k1
      have HE := Lib.hid he
      have HV := Lib.hid hadv
      have HQ := Lib.hid q2
      have HXE := Lib.hid hXe
      have HE0 := Lib.hid hI.env
      have HFU := Lib.hid hfu
      clear hI k1 he hadv q1 q2 hXe hfu hpos
      go_wp2_with ((go_at_call 86; (with_reducible refine c0.mono ?_); intro e w1 hp; obtain ⟨rfl, E1⟩ := HE0.out.call hp; have E1a := (E1.kids1 List.mem_cons_self 15 0 X.1).drew1; have E1 := E1.drew1; have l1 := E1.ld 1 rfl; have c1 := member_any E1.at_; have c1a := member_any E1a.at_; have HE1a := Lib.hid E1a; clear E1a; have HE1 := Lib.hid E1; clear hp E1))
      go_region_with (go_at_call 267; first | ((with_reducible refine c1a.mono ?_); intro e w2 hp; rw [HXE.out] at hp; obtain ⟨rfl, E2⟩ := HE1a.out.call hp; have s2 := E2.sto 1 rfl; have HF := Lib.hid ((E2.store 1 rfl ⟨15, 0, X.1, nilSl, newSl w1.heap.size 1⟩).only List.mem_cons_self); clear hp E2) | ((with_reducible refine c1.mono ?_); intro e w2 hp; rw [HXE.out] at hp; obtain ⟨rfl, E2⟩ := HE1.out.call hp; have l2 := E2.ld 1 rfl; have E3 := E2.kids1 List.mem_cons_self 15 0 X.1; have s2 := E3.sto 1 rfl; have HF := Lib.hid ((E3.store 1 rfl ⟨15, 0, X.1, nilSl, newSl w2.heap.size 1⟩).only List.mem_cons_self); clear hp E2 E3))
      all_goals (
        go_wp2
        go_roundw
        case rel => exact ⟨_, _, _, f', HF.out, by have := HV.out; have := HQ.out; have := HFU.out; omega, HE.out⟩
        case measure => rw [HF.out.at_.len, hlen]; have := HV.out; have := HQ.out; omega)
    | false =>
      cases k2 : seesF ⟨#[91]⟩ s' with
      | true =>
        obtain ⟨q1, q2⟩ := hI.env.at_.ok.take (sees_kind k2)
        obtain ⟨f', rfl⟩ : ∃ f', f = f' + 1 := ⟨f - 1, by omega⟩
        have he := hI.eq
        rw [memb_idx k1 k2] at he
        have hadv := hL.ad.ex s'.take q1
        obtain ⟨X, hXe⟩ : ∃ X, L.ex s'.take = X := ⟨_, rfl⟩
        rw [hXe] at he hadv
        have hadv2 := needs_adv ⟨#[93]⟩ X.2 hadv.1
        have c0 := takes_f hI.env.at_ k1
        have HK2 := Lib.hid k2
        have HE := Lib.hid he
        have HV := Lib.hid hadv
        have HV2 := Lib.hid hadv2
        have HQ := Lib.hid q2
        have HXE := Lib.hid hXe
        have HE0 := Lib.hid hI.env
        have HFU := Lib.hid hfu
        clear hI k1 k2 he hadv hadv2 q1 q2 hXe hfu hpos
        go_wp2_with (first | (go_at_call 86; (with_reducible refine c0.mono ?_); intro e w1 hp; obtain ⟨rfl, E1⟩ := HE0.out.call hp; have c1 := takes_t E1.at_ HK2.out; have HE1 := Lib.hid E1; clear hp E1) | (go_at_call 86; (with_reducible refine c1.mono ?_); intro e w3 hp; obtain ⟨rfl, E3⟩ := HE1.out.call hp; have E3 := E3.drew1; have l3 := E3.ld 1 rfl; have c3 := hL.ex E3.at_ E3.gx; have HE3 := Lib.hid E3; clear hp E3))
        go_region_with (first | (go_at_call 141; (with_reducible refine c3.mono ?_); intro e w4 hp; rw [HXE.out] at hp; obtain ⟨N4, rfl, E4⟩ := HE3.out.callN hp; have l4 := E4.ld 1 rfl; have E5 := (E4.kids2 (List.mem_cons_of_mem _ List.mem_cons_self) List.mem_cons_self 16 0 noS).alloc (.cells (ncs (kidN 16 (newSl w4.heap.size 2))) 27); have s5 := E5.sto 1 rfl; have HE5 := Lib.hid ((E5.store 1 rfl (kidN 16 (newSl w4.heap.size 2))).only List.mem_cons_self); clear hp E4 E5) | (go_at_call 22; (with_reducible refine (node_any _ _ _ _ _).mono ?_); rintro e wn ⟨rfl, rfl⟩))
        all_goals (
          have c6 := needs_any HE5.out.at_ ⟨#[93]⟩
          go_wp2_with (go_at_call 93; (with_reducible refine c6.mono ?_); intro e w6 hp; obtain ⟨rfl, E6⟩ := HE5.out.call hp; have HF := Lib.hid E6; clear hp E6)
          go_roundw
          case rel => exact ⟨_, _, _, f', HF.out, by have := HV.out; have := HV2.out; have := HQ.out; have := HFU.out; omega, HE.out⟩
          case measure => rw [HF.out.at_.len, hlen]; have := HV.out; have := HV2.out; have := HQ.out; omega)
      | false =>
        have he := hI.eq
        rw [memb_end k1 k2] at he
        have c0 := takes_f hI.env.at_ k1
        have HK2 := Lib.hid k2
        have HE := Lib.hid he
        have HE0 := Lib.hid hI.env
        clear hI k1 k2 he
        go_wp2_with (first | (go_at_call 86; (with_reducible refine c0.mono ?_); intro e w1 hp; obtain ⟨rfl, E1⟩ := HE0.out.call hp; have c1 := takes_f E1.at_ HK2.out; have HE1 := Lib.hid E1; clear hp E1) | (go_at_call 86; (with_reducible refine c1.mono ?_); intro e w2 hp; obtain ⟨rfl, E2⟩ := HE1.out.call hp; have l2 := E2.ld 1 rfl; have s2 := E2.sto 0 rfl; have HE2 := Lib.hid E2; clear hp E2))
        rw [HE.out]
        exact ((HE2.out.store 0 rfl _).fin List.mem_cons_self List.mem_cons_self rfl rfl)
end Go.Proofs.YtkknglmpdmhhjaaGreatDoor.Pa

/-
  binary.
-/
namespace Go.Proofs.YtkknglmpdmhhjaaGreatDoor.Pa
open Go Go.RowKit Go.Proofs.YtkknglmpdmhhjaaGreatDoor.Lx Go.Proofs.YtkknglmpdmhhjaaGreatDoor.Uni
set_option linter.unusedVariables false
set_option linter.unusedSimpArgs false
attribute [local go_sem ↓] ldK stK alK bdK bsK ldN stN alN bdN bsN
attribute [local irreducible] kcs ncs ncells
attribute [local go_sem] run_alK run_bdK0 run_bdKs run_bdKn run_bdKe run_bsK run_fdK0 run_fdK1 run_fdK2 run_fdK3 run_fdN4 run_alN run_stNg run_ldNg run_bdN0 run_bdN04 run_bdN02 run_bdN01 run_bdN024 run_bdN03 run_bdN0234 run_bsN1 run_bsN2 run_bsN3

theorem level_ascii (n : Nat) : (levelT n).size ≤ 1000 ∧ ∀ p, p < (levelT n).size → B (levelT n) p < 128 := by
  rcases (by omega : n = 0 ∨ n = 1 ∨ n = 2 ∨ n = 3 ∨ n = 4 ∨ 5 ≤ n) with rfl | rfl | rfl | rfl | rfl | h
  · exact ⟨by decide, by decide⟩
  · exact ⟨by decide, by decide⟩
  · exact ⟨by decide, by decide⟩
  · exact ⟨by decide, by decide⟩
  · exact ⟨by decide, by decide⟩
  · have e : levelT n = ⟨#[42, 32, 47, 32, 37]⟩ := by
      match n, h with
      | n + 5, _ => rfl
    rw [e]
    exact ⟨by decide, by decide⟩
theorem Gx.level {g : Nat} {w : World} (h : Gx g w) (n : Nat) (hn : n < 6) : w.cell? ⟨2, n, none⟩ = some (.string (levelT n)) := by
  have := h.lv n (.string (levelT n)) (by
    rcases (by omega : n = 0 ∨ n = 1 ∨ n = 2 ∨ n = 3 ∨ n = 4 ∨ n = 5) with rfl | rfl | rfl | rfl | rfl | rfl <;> rfl)
  rwa [Nat.zero_add] at this
theorem binl_cons {lev : Nat} {F : PS → Tree × PS} {k : Nat} {l : Tree} {s : PS} (h : seesOneF (levelT lev) s = true) : binLoop lev F (k + 1) l s = binLoop lev F k (opF s.next.text l (F s.take).1) (F s.take).2 := by
  conv => lhs; unfold binLoop
  rw [h]; rfl
theorem binl_end {lev : Nat} {F : PS → Tree × PS} {k : Nat} {l : Tree} {s : PS} (h : seesOneF (levelT lev) s = false) : binLoop lev F k l s = (l, s) := by
  cases k with
  | zero => rfl
  | succ k => unfold binLoop; rw [h]; rfl
structure BI (F : PS → Tree × PS) (lev : Nat) (g d : Nat) (w wr : World) (R : Tree × PS) (T : Tree) (N : Nd) (b5 : Nat) (s : PS) (f : Nat) : Prop where
  env : Env g d s (fun _ => False) w wr [(b5, N), (w.heap.size, zeroN)] [(T, N)]
  fu : s.left.length ≤ f
  eq : R = binLoop lev F f T s
def BinC (d : Nat) (F : PS → Tree × PS) (lv : Nat) : Prop := ∀ (g : Nat) (s : PS) (w : World) (i : Int), i = (lv : Int) → At g d s w → Gx g w → Calls Tryz.prog 215 #[.pointer (some ⟨g, 0, none⟩), .int .i64 i] w (PostN g d w (F s))

set_option maxRecDepth 100000 in
set_option maxHeartbeats 4000000 in
theorem bin_zero {d : Nat} {L : Low} (hL : LowC d L) : BinC d (binF L 0) 6 := by
  intro g s w i hi h hX
  subst hi
  have E0 := (Env.start h hX).new zeroN
  have c0 := hL.un E0.at_ E0.gx
  have HE0 := Lib.hid E0
  clear E0 h hX
  go_enter Tryz.func215, Tryz.ntmps215
  go_wp2_with ((go_at_call 230; (with_reducible refine c0.mono ?_); intro e w1 hp; obtain ⟨N1, rfl, E1⟩ := HE0.out.callN hp; have s1 := E1.sto 0 rfl; have HE1 := Lib.hid E1; clear hp E1))
  exact ((HE1.out.store 0 rfl _).fin List.mem_cons_self List.mem_cons_self rfl rfl)

set_option maxRecDepth 100000 in
set_option maxHeartbeats 4000000 in
theorem bin_succ {d : Nat} {L : Low} (hL : LowC d L) {n : Nat} (hn : n < 6) (ih : BinC d (binF L n) (6 - n)) : BinC d (binF L (n + 1)) (5 - n) := by
  intro g s w i hi h hX
  obtain ⟨lv, hlv⟩ : ∃ lv, 5 - n = lv := ⟨_, rfl⟩
  have had := bin_adv hL.ad n
  obtain ⟨F, hF⟩ : ∃ F, binF L n = F := ⟨_, rfl⟩
  have hR0 : binF L (n + 1) s = binLoop lv F (F s).2.left.length (F s).1 (F s).2 := by
    conv => lhs; unfold binF
    rw [hF, hlv]
  rw [show 6 - n = lv + 1 from by omega, hF] at ih
  rw [hF] at had
  rw [hlv] at hi
  subst hi
  have hl5 : lv ≤ 5 := by omega
  have hli : (lv : Int) ≤ 5 := by omega
  have hl0 : (0 : Int) ≤ (lv : Int) := by omega
  have hwr : IntKind.i64.wrap ((lv : Int) + 1) = (lv : Int) + 1 := by rw [IntKind.wrap_i64]; omega
  have e6 : ((lv : Int) == 6) = false := by simp; omega
  obtain ⟨R, hR⟩ : ∃ R, R = binF L (n + 1) s := ⟨_, rfl⟩
  rw [← hR]
  rw [hR0] at hR
  obtain ⟨X, hXe⟩ : ∃ X, F s = X := ⟨_, rfl⟩
  rw [hXe] at hR
  have hadX := had s h.ok
  have hgl := h.lt
  have E0 := (Env.start h hX).new zeroN
  have c0 := ih _ _ _ ((lv : Int) + 1) (by omega) E0.at_ E0.gx
  rw [hXe] at c0
  have hasc := level_ascii lv
  have HE0 := Lib.hid E0
  have HR := Lib.hid hR
  have HIH := Lib.hid ih
  have HAD := Lib.hid had
  clear E0 h hX hR hR0 hF hlv ih had hadX hXe hn
  go_enter Tryz.func215, Tryz.ntmps215
  go_wp2_with (go_at_call 215; (with_reducible refine c0.mono ?_); intro e w1 hp; obtain ⟨N1, rfl, E1⟩ := HE0.out.callN hp; have E1 := E1.new N1; have HE1 := Lib.hid (E1.only List.mem_cons_self); clear hp E1)
  have hst : BI F lv g d w (w1.alloc (.cells (ncs N1) 27)) R X.1 N1 w1.heap.size X.2 X.2.left.length := ⟨HE1.out, Nat.le_refl _, HR.out⟩
  have HST := Lib.hid hst
  have hb5 := HE1.out.gb.size
  clear hst c0
  go_loopw [] (fun wr => ∃ T N s f, BI F lv g d w wr R T N w1.heap.size s f) (fun wr => lenOf g wr)
  case atStart => exact ⟨_, _, _, _, HST.out⟩
  case round =>
    obtain ⟨T, N, s', f, hI⟩ := hrel
    have hlen := hI.env.at_.len
    have hlvl := hI.env.gx.level lv (by omega)
    have hlvd := hlvl
    cases k1 : seesOneF (levelT lv) s' with
    | true =>
      obtain ⟨q1, q2⟩ := hI.env.at_.ok.take (one_kind k1)
      have hfu := hI.fu
      have hpos := hI.env.at_.ok.pos
      obtain ⟨f', rfl⟩ : ∃ f', f = f' + 1 := ⟨f - 1, by omega⟩
      have he := hI.eq
      rw [binl_cons k1] at he
      have hadv := HAD.out s'.take q1
      obtain ⟨Y, hY⟩ : ∃ Y, F s'.take = Y := ⟨_, rfl⟩
      rw [hY] at he hadv
      have c2 := seesOne_any hI.env.at_ (levelT lv) hasc.1 hasc.2
      rw [k1] at c2
      have hk := one_kind k1
      have HK := Lib.hid hk
      have HE := Lib.hid he
      have HV := Lib.hid hadv
      have HQ := Lib.hid q2
      have HY := Lib.hid hY
      have HE2 := Lib.hid hI.env
      have HFU := Lib.hid hfu
      clear hI k1 he hadv q1 q2 hY hfu hpos hk
      go_wp2_with (first | (go_at_call 231; (with_reducible refine c2.mono ?_); intro e w3 hp; obtain ⟨rfl, E3⟩ := HE2.out.callR hp; have c3 := take_any E3.at_ HK.out; have HE3 := Lib.hid E3; clear hp E3) | (go_at_call 139; (with_reducible refine c3.mono ?_); intro e w4 hp; obtain ⟨rfl, E4⟩ := HE3.out.call hp; have E4 := E4.drew1; have l4 := E4.ld 0 rfl; have c4 := HIH.out _ _ _ ((lv : Int) + 1) (by omega) E4.at_ E4.gx; have HE4 := Lib.hid E4; clear hp E4))
      go_region_with (first | (go_at_call 215; (with_reducible refine c4.mono ?_); intro e w5 hp; rw [HY.out] at hp; obtain ⟨N5, rfl, E5⟩ := HE4.out.callN hp; have l5 := E5.ld 0 rfl; have c5 := op_any E5.at_ E5.gx E5.ne (E5.rp _ (List.mem_cons_of_mem _ List.mem_cons_self)) (E5.rp _ List.mem_cons_self) s'.next.text; have HE5 := Lib.hid E5; clear hp E5) | (go_at_call 232; (with_reducible refine c5.mono ?_); intro e w6 hp; obtain ⟨N6, rfl, E6⟩ := HE5.out.callS hp (fun b hb => hb); have s6 := E6.sto 0 rfl; have HF := Lib.hid ((E6.store 0 rfl N6).only List.mem_cons_self); clear hp E6))
      all_goals (
        go_wp2
        go_roundw
        case rel => exact ⟨_, _, _, f', HF.out, by have := HV.out; have := HQ.out; have := HFU.out; omega, HE.out⟩
        case measure => rw [HF.out.at_.len, hlen]; have := HV.out; have := HQ.out; omega)
    | false =>
      have he := hI.eq
      rw [binl_end k1] at he
      have c2 := seesOne_any hI.env.at_ (levelT lv) hasc.1 hasc.2
      rw [k1] at c2
      have HE := Lib.hid he
      have HE2 := Lib.hid hI.env
      clear hI k1 he
      go_wp2_with ((go_at_call 231; (with_reducible refine c2.mono ?_); intro e w3 hp; obtain ⟨rfl, E3⟩ := HE2.out.callR hp; have l3 := E3.ld 0 rfl; have s3 := E3.sto 1 rfl; have HE3 := Lib.hid E3; clear hp E3))
      rw [HE.out]
      exact ((HE3.out.store 1 rfl _).fin (List.mem_cons_of_mem _ List.mem_cons_self) List.mem_cons_self rfl rfl)

theorem bin_any {d : Nat} {L : Low} (hL : LowC d L) : ∀ n, n ≤ 6 → BinC d (binF L n) (6 - n)
  | 0, _ => bin_zero hL
  | n + 1, hn => by
    have := bin_succ hL (n := n) (by omega) (bin_any hL n (by omega))
    rwa [show 6 - (n + 1) = 5 - n from by omega]
end Go.Proofs.YtkknglmpdmhhjaaGreatDoor.Pa

/-
  base, chain.
-/
namespace Go.Proofs.YtkknglmpdmhhjaaGreatDoor.Pa
open Go Go.RowKit Go.Proofs.YtkknglmpdmhhjaaGreatDoor.Lx Go.Proofs.YtkknglmpdmhhjaaGreatDoor.Uni
set_option linter.unusedVariables false
set_option linter.unusedSimpArgs false
attribute [local go_sem ↓] ldK stK alK bdK bsK ldN stN alN bdN bsN
attribute [local irreducible] kcs ncs ncells
attribute [local go_sem] run_alK run_bdK0 run_bdKs run_bdKn run_bdKe run_bsK run_fdK0 run_fdK1 run_fdK2 run_fdK3 run_fdN4 run_alN run_stNg run_ldNg run_bdN0 run_bdN04 run_bdN02 run_bdN01 run_bdN024 run_bdN03 run_bdN0234 run_bsN1 run_bsN2 run_bsN3

set_option maxRecDepth 100000 in
set_option maxHeartbeats 4000000 in
theorem base_f {d : Nat} {L : Low} (hL : LowC d L) {g : Nat} {s : PS} {w : World} (h : At g d s w) (hX : Gx g w) (k0 : seesF ⟨#[110, 101, 119]⟩ s = false) :
    Calls Tryz.prog 257 #[.pointer (some ⟨g, 0, none⟩)] w (PostN g d w (primF L s)) := by
  have E0 := (Env.start h hX).new zeroN
  have c0 := takes_f E0.at_ k0
  have HE0 := Lib.hid E0
  clear E0 h hX k0
  go_enter Tryz.func257, Tryz.ntmps257
  go_wp2_with (first | (go_at_call 86; (with_reducible refine c0.mono ?_); intro e w1 hp; obtain ⟨rfl, E1⟩ := HE0.out.call hp; have c1 := prim_any hL E1.at_ E1.gx; have HE1 := Lib.hid E1; clear hp E1) | (go_at_call 268; (with_reducible refine c1.mono ?_); intro e w2 hp; obtain ⟨N2, rfl, E2⟩ := HE1.out.callN hp; have s2 := E2.sto 0 rfl; have HE2 := Lib.hid E2; clear hp E2))
  exact ((HE2.out.store 0 rfl _).fin List.mem_cons_self List.mem_cons_self rfl rfl)

set_option maxRecDepth 100000 in
set_option maxHeartbeats 4000000 in
theorem base_t {d : Nat} {L : Low} (hL : LowC d L) {g : Nat} {s : PS} {w : World} (h : At g d s w) (hX : Gx g w) (k0 : seesF ⟨#[110, 101, 119]⟩ s = true) :
    Calls Tryz.prog 257 #[.pointer (some ⟨g, 0, none⟩)] w (PostN g d w (calledF L 18 (membF L (primF L s.take).1 (primF L s.take).2).1 (membF L (primF L s.take).1 (primF L s.take).2).2)) := by
  have E0 := (Env.start h hX).new zeroN
  have c0 := takes_t E0.at_ k0
  have HE0 := Lib.hid E0
  clear E0 h hX k0
  go_enter Tryz.func257, Tryz.ntmps257
  go_wp2_with (first | (go_at_call 86; (with_reducible refine c0.mono ?_); intro e w1 hp; obtain ⟨rfl, E1⟩ := HE0.out.call hp; have c1 := prim_any hL E1.at_ E1.gx; have HE1 := Lib.hid E1; clear hp E1) | (go_at_call 268; (with_reducible refine c1.mono ?_); intro e w2 hp; obtain ⟨N2, rfl, E2⟩ := HE1.out.callN hp; have c2 := members_any hL E2.at_ E2.gx E2.ne (E2.rp _ List.mem_cons_self); have HE2 := Lib.hid E2; clear hp E2) | (go_at_call 256; (with_reducible refine c2.mono ?_); intro e w3 hp; obtain ⟨N3, rfl, E3⟩ := HE2.out.callS hp (fun b hb => hb); have c3 := called_any hL E3.at_ E3.gx 18 E3.ne (E3.rp _ List.mem_cons_self); have HE3 := Lib.hid E3; clear hp E3) | (go_at_call 258; (with_reducible refine c3.mono ?_); intro e w4 hp; obtain ⟨N4, rfl, E4⟩ := HE3.out.callS hp (fun b hb => hb); have s4 := E4.sto 0 rfl; have HE4 := Lib.hid E4; clear hp E4))
  exact ((HE4.out.store 0 rfl _).fin List.mem_cons_self List.mem_cons_self rfl rfl)

theorem base_any {d : Nat} {L : Low} (hL : LowC d L) {g : Nat} {s : PS} {w : World} (h : At g d s w) (hX : Gx g w) : Calls Tryz.prog 257 #[.pointer (some ⟨g, 0, none⟩)] w (PostN g d w (baseF L s)) := by
  unfold baseF
  simp only
  cases k0 : seesF ⟨#[110, 101, 119]⟩ s with
  | true => rw [if_pos rfl]; exact base_t hL h hX k0
  | false => rw [if_neg (by decide)]; exact base_f hL h hX k0
theorem call_cons {L : Low} {f : Nat} {n : Tree} {s : PS} (h : seesF ⟨#[40]⟩ s = true) : callLoop L (f + 1) n s = callLoop L f (membF L (calledF L 17 n s).1 (calledF L 17 n s).2).1 (membF L (calledF L 17 n s).1 (calledF L 17 n s).2).2 := by
  conv => lhs; unfold callLoop
  rw [h]; rfl
theorem call_end {L : Low} {f : Nat} {n : Tree} {s : PS} (h : seesF ⟨#[40]⟩ s = false) : callLoop L f n s = (n, s) := by
  cases f with
  | zero => rfl
  | succ f => unfold callLoop; rw [h]; rfl
/-- A call takes at least its first bracket. -/
theorem called_lt {L : Low} (hL : LowA L) {n : Tree} {s : PS} (h : OkS s) (hk : seesF ⟨#[40]⟩ s = true) : (calledF L 17 n s).2.left.length < s.left.length := by
  obtain ⟨h1, h2⟩ := h.take (sees_kind hk)
  have e : needsF ⟨#[40]⟩ s = s.take := by unfold needsF; rw [if_pos hk]
  have := list_adv hL.ex ⟨#[41]⟩ s.take h1
  unfold calledF
  rw [e]
  simp only
  omega
structure KI (L : Low) (g d : Nat) (w wr : World) (R : Tree × PS) (T : Tree) (N : Nd) (b3 : Nat) (s : PS) (f : Nat) : Prop where
  env : Env g d s (fun _ => False) w wr [(b3, N), (w.heap.size, zeroN)] [(T, N)]
  fu : s.left.length ≤ f
  eq : R = callLoop L f T s

set_option maxRecDepth 100000 in
set_option maxHeartbeats 4000000 in
theorem chain_any {d : Nat} {L : Low} (hL : LowC d L) {g : Nat} {s : PS} {w : World} (h : At g d s w) (hX : Gx g w) :
    Calls Tryz.prog 245 #[.pointer (some ⟨g, 0, none⟩)] w (PostN g d w (chainF L s)) := by
  obtain ⟨X, hXe⟩ : ∃ X, baseF L s = X := ⟨_, rfl⟩
  obtain ⟨Z, hZ⟩ : ∃ Z, membF L X.1 X.2 = Z := ⟨_, rfl⟩
  have hR0 : chainF L s = callLoop L Z.2.left.length Z.1 Z.2 := by
    unfold chainF
    rw [hXe]
    simp only
    rw [hZ]
  obtain ⟨R, hR⟩ : ∃ R, R = chainF L s := ⟨_, rfl⟩
  rw [← hR]
  rw [hR0] at hR
  have hgl := h.lt
  have E0 := (Env.start h hX).new zeroN
  have c0 := base_any hL E0.at_ E0.gx
  rw [hXe] at c0
  have HE0 := Lib.hid E0
  have HR := Lib.hid hR
  have HZ := Lib.hid hZ
  clear E0 h hX hR hR0 hXe hZ
  go_enter Tryz.func245, Tryz.ntmps245
  go_wp2_with (first | (go_at_call 257; (with_reducible refine c0.mono ?_); intro e w1 hp; obtain ⟨N1, rfl, E1⟩ := HE0.out.callN hp; have c1 := members_any hL E1.at_ E1.gx E1.ne (E1.rp _ List.mem_cons_self); have HE1 := Lib.hid E1; clear hp E1) | (go_at_call 256; (with_reducible refine c1.mono ?_); intro e w2 hp; rw [HZ.out] at hp; obtain ⟨N2, rfl, E2⟩ := HE1.out.callS hp (fun b hb => hb); have HE2 := Lib.hid ((E2.new N2).only List.mem_cons_self); clear hp E2))
  have hst : KI L g d w (w2.alloc (.cells (ncs N2) 27)) R Z.1 N2 w2.heap.size Z.2 Z.2.left.length := ⟨HE2.out, Nat.le_refl _, HR.out⟩
  have HST := Lib.hid hst
  clear hst c0 c1
  go_loopw [] (fun wr => ∃ T N s f, KI L g d w wr R T N w2.heap.size s f) (fun wr => lenOf g wr)
  case atStart => exact ⟨_, _, _, _, HST.out⟩
  case round =>
    obtain ⟨T, N, s', f, hI⟩ := hrel
    have hlen := hI.env.at_.len
    cases k1 : seesF ⟨#[40]⟩ s' with
    | true =>
      have hfu := hI.fu
      have hpos := hI.env.at_.ok.pos
      obtain ⟨f', rfl⟩ : ∃ f', f = f' + 1 := ⟨f - 1, by omega⟩
      have he := hI.eq
      rw [call_cons k1] at he
      have hlt := called_lt hL.ad (n := T) hI.env.at_.ok k1
      obtain ⟨Y, hY⟩ : ∃ Y, calledF L 17 T s' = Y := ⟨_, rfl⟩
      have hadv := (called_adv hL.ad 17 T s').trans (memb_adv hL.ad Y.1 (calledF L 17 T s').2) hI.env.at_.ok
      have hadv1 := called_adv hL.ad 17 T s' hI.env.at_.ok
      rw [hY] at he hlt hadv hadv1
      have hadv2 := memb_adv hL.ad Y.1 Y.2 hadv1.1
      obtain ⟨V, hV⟩ : ∃ V, membF L Y.1 Y.2 = V := ⟨_, rfl⟩
      rw [hV] at he hadv2
      have c2 := sees_t hI.env.at_ k1
      have HE := Lib.hid he
      have HV2 := Lib.hid hadv2.2.1
      have HLT := Lib.hid hlt
      have HY := Lib.hid hY
      have HV := Lib.hid hV
      have HE2 := Lib.hid hI.env
      have HFU := Lib.hid hfu
      clear hI k1 he hadv hadv1 hadv2 hY hV hfu hpos hlt
      go_wp2_with (first | (go_at_call 84; (with_reducible refine c2.mono ?_); intro e w3 hp; obtain ⟨rfl, E3⟩ := HE2.out.callR hp; have l3 := E3.ld 0 rfl; have c3 := called_any hL E3.at_ E3.gx 17 E3.ne (E3.rp _ List.mem_cons_self); have HE3 := Lib.hid E3; clear hp E3) | (go_at_call 258; (with_reducible refine c3.mono ?_); intro e w4 hp; rw [HY.out] at hp; obtain ⟨N4, rfl, E4⟩ := HE3.out.callS hp (fun b hb => hb); have c4 := members_any hL E4.at_ E4.gx E4.ne (E4.rp _ List.mem_cons_self); have HE4 := Lib.hid E4; clear hp E4) | (go_at_call 256; (with_reducible refine c4.mono ?_); intro e w5 hp; rw [HV.out] at hp; obtain ⟨N5, rfl, E5⟩ := HE4.out.callS hp (fun b hb => hb); have s5 := E5.sto 0 rfl; have HF := Lib.hid ((E5.store 0 rfl N5).only List.mem_cons_self); clear hp E5))
      go_roundw
      case rel => exact ⟨_, _, _, f', HF.out, by have := HV2.out; have := HLT.out; have := HFU.out; omega, HE.out⟩
      case measure => rw [HF.out.at_.len, hlen]; have := HV2.out; have := HLT.out; omega
    | false =>
      have he := hI.eq
      rw [call_end k1] at he
      have c2 := sees_f hI.env.at_ k1
      have HE := Lib.hid he
      have HE2 := Lib.hid hI.env
      clear hI k1 he
      go_wp2_with ((go_at_call 84; (with_reducible refine c2.mono ?_); intro e w3 hp; obtain ⟨rfl, E3⟩ := HE2.out.callR hp; have l3 := E3.ld 0 rfl; have s3 := E3.sto 1 rfl; have HE3 := Lib.hid E3; clear hp E3))
      rw [HE.out]
      exact ((HE3.out.store 1 rfl _).fin (List.mem_cons_of_mem _ List.mem_cons_self) List.mem_cons_self rfl rfl)
end Go.Proofs.YtkknglmpdmhhjaaGreatDoor.Pa
