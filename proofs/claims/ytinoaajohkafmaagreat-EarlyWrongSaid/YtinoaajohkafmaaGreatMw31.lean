/-
  Texts of this seat in build order: RpLowC, RpParse, RlToks, RlOk.
-/
import Derived.Test.YtinoaajohkafmaaGreatMw26
import Derived.Test.YtinoaajohkafmaaGreatMw27
import Derived.Test.YtinoaajohkafmaaGreatMw28
import Derived.Test.YtinoaajohkafmaaGreatMw29
import Derived.Test.YtinoaajohkafmaaGreatMw30
import Derived.Test.YtinoaajohkafmaaGreatMw17
/-
  The reference's parser: its methods, at every depth.
-/
namespace Go.Proofs.YtinoaajohkafmaaGreat.Rp
open Go Go.RowKit Go.Proofs.YtinoaajohkafmaaGreat.Uni Go.Proofs.YtinoaajohkafmaaGreat.Pa
open Go.Proofs.YtinoaajohkafmaaGreat.Lx
set_option linter.unusedVariables false
set_option linter.unusedSimpArgs false
attribute [local go_sem ↓] ldK stK alK bdK bsK ldN stN alN bdN bsN
attribute [local irreducible] kcs ncs ncells
attribute [local go_sem] run_alK run_bdK0 run_bdKs run_bdKn run_bdKe run_bsK run_fdK0 run_fdK1 run_fdK2 run_fdK3 run_fdN4 run_alN run_stNg run_ldNg run_bdN0 run_bdN04 run_bdN02 run_bdN01 run_bdN024 run_bdN03 run_bdN0234 run_bsN1 run_bsN2 run_bsN3
theorem lev_all {d : Nat} {L : Low} (hL : LowC d L) : ∀ n, n ≤ 6 → BinC d (binF L n) (6 - n) := by
  intro n
  induction n with
  | zero => intro _; exact bin_zero hL
  | succ n ih =>
    intro hn
    have e : 6 - (n + 1) = 5 - n := by omega
    rw [e]
    exact bin_succ hL (by omega) (ih (by omega))
theorem lev_any {d : Nat} {L : Low} (hL : LowC d L) : LevC d L := fun {g s w} h => lev_all hL 6 (by omega) g s w 0 rfl h
theorem needs_t {x : ByteArray} {s : PS} (h : seesF x s = true) : needsF x s = s.take := by unfold needsF; rw [h]; rfl
theorem in_any {d : Nat} {L : Low} (hL : LowC d L) {g : Nat} {s : PS} {w : World} (h : At g d s w) (hf : s.fault = 0) :
    Calls Tryz.prog 62 #[.pointer (some ⟨g, 0, none⟩)] w (PostN g d w (rstF L s)) := by
  unfold rstF
  by_cases b1 : seesF ⟨#[123]⟩ s = true
  · rw [if_pos b1]; exact in_block hL h hf b1
  rw [if_neg b1]
  by_cases b2 : seesF ⟨#[102, 117, 110, 99, 116, 105, 111, 110]⟩ s = true
  · rw [if_pos b2]; exact in_func hL h hf b2 rfl rfl
  rw [if_neg b2]
  by_cases b3 : seesF ⟨#[105, 102]⟩ s = true
  · rw [if_pos b3]
    unfold choiceF
    cases hq : seesF ⟨#[101, 108, 115, 101]⟩ (L.st (parenF L s.take).2).2 with
    | true => simp only [hq]; exact in_if_t hL h hf b3 rfl rfl hq rfl
    | false => simp only [hq]; exact in_if_f hL h hf b3 rfl rfl hq
  rw [if_neg b3]
  by_cases b4 : seesF ⟨#[119, 104, 105, 108, 101]⟩ s = true
  · rw [if_pos b4]; exact in_while hL h hf b4 rfl rfl
  rw [if_neg b4]
  by_cases b5 : seesF ⟨#[116, 114, 121]⟩ s = true
  · rw [if_pos b5]; exact in_try hL h hf b5 (try_any hL)
  rw [if_neg b5]
  unfold simpF
  by_cases c1 : seesF ⟨#[59]⟩ s = true
  · rw [if_pos c1]
    simp only
    rw [needs_t c1]
    exact in_semi hL h hf c1
  rw [if_neg c1]
  by_cases c2 : seesF ⟨#[108, 101, 116]⟩ s = true
  · rw [if_pos c2]
    unfold letF
    cases hq : seesF ⟨#[61]⟩ (nameF s.take).2 with
    | true => simp only [hq]; exact in_let_t hL h hf c2 rfl hq rfl
    | false => simp only [hq]; exact in_let_f hL h hf c2 rfl hq
  rw [if_neg c2]
  by_cases c3 : seesF ⟨#[99, 111, 110, 115, 116]⟩ s = true
  · rw [if_pos c3]; exact in_const hL h hf c3 rfl rfl
  rw [if_neg c3]
  by_cases c4 : seesF ⟨#[114, 101, 116, 117, 114, 110]⟩ s = true
  · rw [if_pos c4]
    cases hq : seesF ⟨#[59]⟩ s.take with
    | true => exact in_ret_t hL h hf c4 hq
    | false => exact in_ret_f hL h hf c4 hq rfl
  rw [if_neg c4]
  by_cases c5 : seesF ⟨#[116, 104, 114, 111, 119]⟩ s = true
  · rw [if_pos c5]; exact in_throw hL h hf c5 rfl
  rw [if_neg c5]
  by_cases c6 : seesF ⟨#[98, 114, 101, 97, 107]⟩ s = true
  · rw [if_pos c6]; exact in_break hL h hf c6
  rw [if_neg c6]
  by_cases c7 : seesF ⟨#[99, 111, 110, 116, 105, 110, 117, 101]⟩ s = true
  · rw [if_pos c7]; exact in_continue hL h hf c7
  rw [if_neg c7]
  simp only [Bool.not_eq_true] at b1 b2 b3 b4 b5 c1 c2 c3 c4 c5 c6 c7
  exact in_expr hL h hf c2 c3 b2 b3 b4 c4 c5 b5 b1 c6 c7 c1 rfl
theorem ex_any {d : Nat} {L : Low} (hL : LowC (d + 1) L) (hd : d < 100) {g : Nat} {s : PS} {w : World} (h : At g d s w) (hf : s.fault = 0) :
    Calls Tryz.prog 81 #[.pointer (some ⟨g, 0, none⟩)] w (PostN g d w (rexF L s)) := by
  have hV : LevC (d + 1) L := fun {g s w} h => lev_any hL h
  unfold rexF
  have had := bin_adv hL.ad 6 s
  obtain ⟨X, hX⟩ : ∃ X, binF L 6 s = X := ⟨_, rfl⟩
  rw [hX] at had
  cases k1 : seesF ⟨#[63]⟩ (X).2 with
  | false =>
    have ec : condF L s = X := by unfold condF; rw [hX]; simp only [k1]; exact if_neg (by decide)
    rw [ec]
    have hok := (had h.ok).1
    simp only
    by_cases hf2 : (X).2.fault = 0
    · by_cases k2 : seesF ⟨#[61]⟩ (X).2 = true
      · rw [if_pos k2]
        by_cases hm : (X).1.kind ≠ 8 ∧ memberB (X).1 = false
        · rw [if_pos hm]; exact ex_p_not hL hV hd h hf hX k1 hf2 k2 hm
        · rw [if_neg hm, needs_t k2]; exact ex_p_yes hL hV hd h hf hX k1 hf2 k2 hm rfl
      · rw [if_neg k2]; exact ex_p_no hL hV hd h hf hX k1 hf2 (by simpa using k2)
    · rw [if_neg (by rw [sees_bad hok hf2]; decide)]
      exact ex_p_bad hL hV hd h hf hX k1 hf2
  | true =>
    obtain ⟨Z, hZ⟩ : ∃ Z, L.ex (needsF ⟨#[58]⟩ (L.ex (X).2.take).2) = Z := ⟨_, rfl⟩
    have ec : condF L s = (node 23 [(X).1, (L.ex (X).2.take).1, Z.1], Z.2) := by unfold condF; rw [hX]; simp only [k1, hZ]; exact if_pos trivial
    rw [ec]
    have hok : OkS Z.2 := by
      rw [← hZ]
      exact (((had.tk k1).trans ((hL.ad.ex _).nd)).trans (hL.ad.ex _) h.ok).1
    simp only
    by_cases hf2 : Z.2.fault = 0
    · by_cases k2 : seesF ⟨#[61]⟩ Z.2 = true
      · rw [if_pos k2]
        by_cases hm : (node 23 [(X).1, (L.ex (X).2.take).1, Z.1]).kind ≠ 8 ∧ memberB (node 23 [(X).1, (L.ex (X).2.take).1, Z.1]) = false
        · rw [if_pos hm]; exact ex_q_not hL hV hd h hf hX k1 rfl hZ hf2 k2 hm
        · rw [if_neg hm, needs_t k2]; exact ex_q_yes hL hV hd h hf hX k1 rfl hZ hf2 k2 hm rfl
      · rw [if_neg k2]; exact ex_q_no hL hV hd h hf hX k1 rfl hZ hf2 (by simpa using k2)
    · rw [if_neg (by rw [sees_bad hok hf2]; decide)]
      exact ex_q_bad hL hV hd h hf hX k1 rfl hZ hf2
set_option maxRecDepth 100000 in
set_option maxHeartbeats 4000000 in
theorem st_e {d g : Nat} {s : PS} {w : World} (h : At g d s w) (hf : s.fault ≠ 0) :
    Calls Tryz.prog 38 #[.pointer (some ⟨g, 0, none⟩)] w (PostN g d w (zeroT, s)) := by
  have E0 := (Env.start h).new zeroN
  have c1 := enter_e E0.at_ hf
  have HE0 := Lib.hid E0
  clear E0 h hf
  go_enter Tryz.func38, Tryz.ntmps38
  go_wp2_with (go_at_call 61; (with_reducible refine c1.mono ?_); intro e w1 hp; obtain ⟨rfl, E1⟩ := HE0.out.call hp; have E1 := E1.leaf 0 0 noS; have s1 := E1.sto 0 rfl; have HE1 := Lib.hid E1; clear hp E1)
  exact ((HE1.out.store 0 rfl _).fin List.mem_cons_self List.mem_cons_self rfl rfl)
set_option maxRecDepth 100000 in
set_option maxHeartbeats 4000000 in
theorem st_d {d g : Nat} {s : PS} {w : World} (h : At g 100 s w) (hf : s.fault = 0) :
    Calls Tryz.prog 38 #[.pointer (some ⟨g, 0, none⟩)] w (PostN g 100 w (zeroT, s.fail 4)) := by
  have E0 := (Env.start h).new zeroN
  have c1 := enter_d E0.at_ hf
  have HE0 := Lib.hid E0
  clear E0 h hf
  go_enter Tryz.func38, Tryz.ntmps38
  go_wp2_with (go_at_call 61; (with_reducible refine c1.mono ?_); intro e w1 hp; obtain ⟨rfl, E1⟩ := HE0.out.call hp; have E1 := E1.leaf 0 0 noS; have s1 := E1.sto 0 rfl; have HE1 := Lib.hid E1; clear hp E1)
  exact ((HE1.out.store 0 rfl _).fin List.mem_cons_self List.mem_cons_self rfl rfl)
set_option maxRecDepth 100000 in
set_option maxHeartbeats 4000000 in
theorem ex_e {d g : Nat} {s : PS} {w : World} (h : At g d s w) (hf : s.fault ≠ 0) :
    Calls Tryz.prog 81 #[.pointer (some ⟨g, 0, none⟩)] w (PostN g d w (zeroT, s)) := by
  have E0 := (Env.start h).new zeroN
  have c1 := enter_e E0.at_ hf
  have HE0 := Lib.hid E0
  clear E0 h hf
  go_enter Tryz.func81, Tryz.ntmps81
  go_wp2_with (go_at_call 61; (with_reducible refine c1.mono ?_); intro e w1 hp; obtain ⟨rfl, E1⟩ := HE0.out.call hp; have E1 := E1.leaf 0 0 noS; have s1 := E1.sto 0 rfl; have HE1 := Lib.hid E1; clear hp E1)
  exact ((HE1.out.store 0 rfl _).fin List.mem_cons_self List.mem_cons_self rfl rfl)
set_option maxRecDepth 100000 in
set_option maxHeartbeats 4000000 in
theorem ex_d {d g : Nat} {s : PS} {w : World} (h : At g 100 s w) (hf : s.fault = 0) :
    Calls Tryz.prog 81 #[.pointer (some ⟨g, 0, none⟩)] w (PostN g 100 w (zeroT, s.fail 4)) := by
  have E0 := (Env.start h).new zeroN
  have c1 := enter_d E0.at_ hf
  have HE0 := Lib.hid E0
  clear E0 h hf
  go_enter Tryz.func81, Tryz.ntmps81
  go_wp2_with (go_at_call 61; (with_reducible refine c1.mono ?_); intro e w1 hp; obtain ⟨rfl, E1⟩ := HE0.out.call hp; have E1 := E1.leaf 0 0 noS; have s1 := E1.sto 0 rfl; have HE1 := Lib.hid E1; clear hp E1)
  exact ((HE1.out.store 0 rfl _).fin List.mem_cons_self List.mem_cons_self rfl rfl)
set_option maxRecDepth 100000 in
set_option maxHeartbeats 4000000 in
theorem un_e {d g : Nat} {s : PS} {w : World} (h : At g d s w) (hf : s.fault ≠ 0) :
    Calls Tryz.prog 113 #[.pointer (some ⟨g, 0, none⟩)] w (PostN g d w (zeroT, s)) := by
  have E0 := (Env.start h).new zeroN
  have c1 := enter_e E0.at_ hf
  have HE0 := Lib.hid E0
  clear E0 h hf
  go_enter Tryz.func113, Tryz.ntmps113
  go_wp2_with (go_at_call 61; (with_reducible refine c1.mono ?_); intro e w1 hp; obtain ⟨rfl, E1⟩ := HE0.out.call hp; have E1 := E1.leaf 0 0 noS; have s1 := E1.sto 0 rfl; have HE1 := Lib.hid E1; clear hp E1)
  exact ((HE1.out.store 0 rfl _).fin List.mem_cons_self List.mem_cons_self rfl rfl)
set_option maxRecDepth 100000 in
set_option maxHeartbeats 4000000 in
theorem un_d {d g : Nat} {s : PS} {w : World} (h : At g 100 s w) (hf : s.fault = 0) :
    Calls Tryz.prog 113 #[.pointer (some ⟨g, 0, none⟩)] w (PostN g 100 w (zeroT, s.fail 4)) := by
  have E0 := (Env.start h).new zeroN
  have c1 := enter_d E0.at_ hf
  have HE0 := Lib.hid E0
  clear E0 h hf
  go_enter Tryz.func113, Tryz.ntmps113
  go_wp2_with (go_at_call 61; (with_reducible refine c1.mono ?_); intro e w1 hp; obtain ⟨rfl, E1⟩ := HE0.out.call hp; have E1 := E1.leaf 0 0 noS; have s1 := E1.sto 0 rfl; have HE1 := Lib.hid E1; clear hp E1)
  exact ((HE1.out.store 0 rfl _).fin List.mem_cons_self List.mem_cons_self rfl rfl)
set_option maxRecDepth 100000 in
set_option maxHeartbeats 4000000 in
theorem st_any {d : Nat} {L : Low} (hL : LowC (d + 1) L) (hd : d < 100) {g : Nat} {s : PS} {w : World} (h : At g d s w) (hf : s.fault = 0) :
    Calls Tryz.prog 38 #[.pointer (some ⟨g, 0, none⟩)] w (PostN g d w (rstF L s)) := by
  have E0 := (Env.start h).new zeroN
  have c1 := enter_t E0.at_ hf hd
  have HE0 := Lib.hid E0
  have HF := Lib.hid hf
  clear E0 h hf
  go_enter Tryz.func38, Tryz.ntmps38
  go_wp2_with (first | (go_at_call 61; (with_reducible refine c1.mono ?_); intro e w1 hp; obtain ⟨rfl, E1⟩ := HE0.out.call hp; have c2 := in_any hL E1.at_ HF.out; have HE1 := Lib.hid E1; clear hp E1) | (go_at_call 62; (with_reducible refine c2.mono ?_); intro e w2 hp; obtain ⟨N2, rfl, E2⟩ := HE1.out.callN hp; have E2 := E2.new N2; obtain ⟨D, M, g2, gf2, gM, EZ⟩ := E2.deep hd; have lZ := EZ.ld 0 rfl; have sZ := EZ.sto 1 rfl; have HEZ := Lib.hid EZ; clear hp E2 EZ))
  exact ((HEZ.out.store 1 rfl _).fin (List.mem_cons_of_mem _ List.mem_cons_self) List.mem_cons_self rfl rfl)
theorem live_ok {f : PS → Tree × PS} {s : PS} (hf : s.fault ≠ 0) : liveF f s = (zeroT, s) := by unfold liveF; rw [if_neg hf]
theorem live_go {f : PS → Tree × PS} {s : PS} (hf : s.fault = 0) : liveF f s = f s := by unfold liveF; rw [if_pos hf]
theorem fail_dead {s : PS} {e : Int} (hf : s.fault ≠ 0) : s.fail e = s := by unfold PS.fail; rw [if_neg hf]
theorem low_any : ∀ r d, d + r = 100 → LowC d (rlowG r) := by
  intro r
  induction r with
  | zero =>
    intro d hd
    have hd : d = 100 := by omega
    subst hd
    rw [rlowG_zero]
    refine ⟨fun {g s w} h => ?_, fun {g s w} h => ?_, fun {g s w} h => ?_, by rw [← rlowG_zero]; exact lowG_ad 0⟩
    · by_cases hf : s.fault = 0
      · exact ex_d (d := 100) h hf
      · simp only [fail_dead hf]; exact ex_e h hf
    · by_cases hf : s.fault = 0
      · exact st_d (d := 100) h hf
      · simp only [fail_dead hf]; exact st_e h hf
    · by_cases hf : s.fault = 0
      · exact un_d (d := 100) h hf
      · simp only [fail_dead hf]; exact un_e h hf
  | succ r ih =>
    intro d hd
    have hL := ih (d + 1) (by omega)
    have had := lowG_ad (r + 1)
    rw [rlowG_succ] at had ⊢
    refine ⟨fun {g s w} h => ?_, fun {g s w} h => ?_, fun {g s w} h => ?_, had⟩
    · by_cases hf : s.fault = 0
      · simp only [live_go hf]; exact ex_any hL (by omega) h hf
      · simp only [live_ok hf]; exact ex_e h hf
    · by_cases hf : s.fault = 0
      · simp only [live_go hf]; exact st_any hL (by omega) h hf
      · simp only [live_ok hf]; exact st_e h hf
    · by_cases hf : s.fault = 0
      · simp only [live_go hf]; exact un_any hL (fun {g s w} h => post_any hL h) (by omega) h hf
      · simp only [live_ok hf]; exact un_e h hf
end Go.Proofs.YtinoaajohkafmaaGreat.Rp

/-
  The reference's Parse, out of the reference's tokens.
-/
namespace Go.Proofs.YtinoaajohkafmaaGreat.Rp
open Go Go.RowKit Go.Proofs.YtinoaajohkafmaaGreat.Uni Go.Proofs.YtinoaajohkafmaaGreat.Pa
open Go.Proofs.YtinoaajohkafmaaGreat.Lx
set_option linter.unusedVariables false
set_option linter.unusedSimpArgs false
attribute [local go_sem ↓] ldK stK alK bdK bsK ldN stN alN bdN bsN
attribute [local irreducible] kcs ncs ncells
attribute [local go_sem] run_alK run_bdK0 run_bdKs run_bdKn run_bdKe run_bsK run_fdK0 run_fdK1 run_fdK2 run_fdK3 run_fdN4 run_alN run_stNg run_ldNg run_bdN0 run_bdN04 run_bdN02 run_bdN01 run_bdN024 run_bdN03 run_bdN0234 run_bsN1 run_bsN2 run_bsN3
theorem Env.e4 {g d : Nat} {s : PS} {S0 : Nat → Prop} {w0 W : World} {bs : List (Nat × Nd)} {vs : List (Tree × Nd)} (E : Env g d s S0 w0 W bs vs) : W.cell? ⟨g, 4, none⟩ = some (.int .i64 s.pos) := by
  obtain ⟨b, o, c, n, k, D, T, ho⟩ := E.at_.opn
  exact ho.c4
def RTok (q p : Nat) (l : List Tok) (w : World) (e : Ending) (w' : World) : Prop :=
  ∃ v, e = .returned (.tuple #[v, .int .i64 (p : Int), .int .i64 (q : Int)]) ∧ w'.ownsRow w.heap.size 73 4 v l.length (tcells l) ∧ Below w.heap.size w w'
def RPost (R : Tree × Int × Int) (w : World) (e : Ending) (w' : World) : Prop :=
  ∃ N, e = .returned (.tuple #[.agg (ncs N), .int .i64 R.2.1, .int .i64 R.2.2]) ∧ Rep (w.heap.size ≤ ·) w' R.1 N ∧ Below w.heap.size w w'
theorem res_NII {fn : Func} {p q r : Tmp} (h : fn.results = #[.cell p 25, .tmp q, .tmp r]) (tmps : Array Value) (w : World) (g : Nat) (t : Nd) (a b : Value) (hp : tmps.getD p undef = .pointer (some ⟨g, 0, none⟩)) (hq : tmps.getD q undef = a) (hr : tmps.getD r undef = b) {T : TypeId} (hv : Blk w g (ncs t) T) : (results fn tmps).run Tryz.prog w = .ok (.tuple #[.agg (ncs t), a, b]) w := by
  have e1 := run_loadVar_row (P := Tryz.prog) w g T 25 (ncs t) (0, 0) _ hv Tryz.underlying25 rfl (by rw [ncs_size]; exact sizeN)
  have hp' : tmps[p]?.getD undef = .pointer (some ⟨g, 0, none⟩) := by simpa using hp
  have hq' : tmps[q]?.getD undef = a := by simpa using hq
  have hr' : tmps[r]?.getD undef = b := by simpa using hr
  simp only [results, h]
  simp [Sem.run_bind, Result.andThen, hp', hq', hr', asAddr, e1]
def rpcs (a : Option Addr) (n c : Nat) : Array Value := #[.slice a n c, .int .i64 0, .int .i64 0, .int .i64 0, .int .i64 0]
def BxP (v : Value) : Sem Value := Instr.box 54 v
theorem bxP (v : Value) : Instr.box 54 v = BxP v := (rfl)
theorem bdP (ps : Array (Nat × Value)) : Instr.build 54 ps = Bd 54 ps := (rfl)
theorem run_bdP (w : World) (a : Option Addr) (n c : Nat) : (Bd 54 #[(0, .slice a n c)]).run Tryz.prog w = .ok (.agg (rpcs a n c)) w := run_build w _ _ _ (by kernel_rfl)
theorem run_bxP (a : Option Addr) (n c : Nat) (w : World) : (BxP (.agg (rpcs a n c))).run Tryz.prog w = .ok (ptr w.heap.size) (w.alloc (.cells (rpcs a n c) 54)) := by
  unfold BxP
  simp [Instr.box, newVar, newRow, Value.cells, go_sem, ptr]
theorem cell_row {W : World} {b c i : Nat} {cs : Array Value} {v : Value} (h : W.cell? ⟨c, i, none⟩ = some v) (hne : c ≠ b) : (W.setRow b cs).cell? ⟨c, i, none⟩ = some v := by
  have e := setRow_other W b c cs hne
  simp only [World.cell?, e] at h ⊢
  exact h
theorem at_new {w : World} {base n : Nat} {v : Value} {l : List Tok} (h : w.ownsRow base 73 4 v n (tcells l)) (hn : n = l.length) (hok : OkS ⟨l, 0, 0⟩) (hw : WordsOk l) : ∃ a c, v = .slice a n c ∧ At w.heap.size 0 ⟨l, 0, 0⟩ (w.alloc (.cells (rpcs a n c) 54)) := by
  subst hn
  have hp := hok.pos
  have hl := hok.len
  simp only at hp hl
  rcases h.2 with ⟨-, h0⟩ | ⟨g, cap, cur, rfl, -, hg, hc, hm, hs, ht⟩
  · omega
  · refine ⟨_, _, rfl, hok, ⟨some ⟨g, 0, none⟩, l.length, cap⟩, l, 0, 0, heap_alloc_new w _, ⟨g, 0, cur, rfl, ?_, ?_, ?_, hc⟩, hp, ⟨hl, hw⟩, fun _ => ⟨rfl, rfl, rfl⟩⟩
    · have := (Array.getElem?_eq_some_iff.1 hg).1; omega
    · exact (heap_alloc_old w _ (Array.getElem?_eq_some_iff.1 hg).1).trans hg
    · intro j u hj
      have := (h.alloc (.cells (rpcs (some ⟨g, 0, none⟩) l.length cap) 54)).cells (g := g) rfl j u hj
      have e : (⟨g, 0, none⟩ : Addr).add j = ⟨g, j, none⟩ := by unfold Addr.add; split <;> simp_all
      rw [e] at this
      rw [Nat.zero_add]
      exact this
attribute [local go_sem ↓] bdP bxP
attribute [local irreducible] rpcs
attribute [local go_sem] run_bdP run_bxP
set_option maxRecDepth 100000 in
set_option maxHeartbeats 4000000 in
theorem parse_bad {q p : Nat} {l : List Tok} (a0 : Option Addr) (n0 c0 : Nat) (w : World) (h : Calls Tryz.prog 19 #[.slice a0 n0 c0] (w.alloc (.cells (ncs zeroN) 25)) (RTok q p l (w.alloc (.cells (ncs zeroN) 25)))) (he : q ≠ 0) :
    Calls Tryz.prog 12 #[.slice a0 n0 c0] w (RPost (zeroT, (p : Int), (q : Int)) w) := by
  have e1 : ((q : Int) != 0) = true := by simpa using he
  clear he
  go_enter Tryz.func12, Tryz.ntmps12
  go_wp2_with (go_at_call 19; (with_reducible refine h.mono ?_); rintro e w1 ⟨v, rfl, hown, hb⟩; have B1 := (Blk.new w (ncs zeroN) 25).call hb; have s1 := run_stN (t := zeroN) B1; have HB := Lib.hid hb; have HB1 := Lib.hid B1; clear hown hb B1)
  refine bodyPost_ret (res_NII rfl _ _ w.heap.size zeroN _ _ rfl rfl rfl (HB1.out.row _)) rfl ⟨zeroN, rfl, ?_, ?_⟩
  · exact Rep.nil _ _ _ _ _
  · exact below_row (bel1.trans (HB.out.mono (by simp))) _ (Nat.le_refl _)
set_option maxRecDepth 100000 in
set_option maxHeartbeats 4000000 in
theorem parse_good {p : Nat} {l : List Tok} (a0 : Option Addr) (n0 c0 : Nat) (w : World) (h : Calls Tryz.prog 19 #[.slice a0 n0 c0] (w.alloc (.cells (ncs zeroN) 25)) (RTok 0 p l (w.alloc (.cells (ncs zeroN) 25)))) (hok : OkS ⟨l, 0, 0⟩) (hw : WordsOk l) {X : List Tree × PS} (hX : stmtsF (rlowG 100) endF (l.length + 1) ⟨l, 0, 0⟩ = X) (hf : X.2.fault = 0) :
    Calls Tryz.prog 12 #[.slice a0 n0 c0] w (RPost (node 44 X.1, 0, 0) w) := by
  have hgw : w.heap.size < (w.alloc (.cells (ncs zeroN) 25)).heap.size := by simp
  have HOK := Lib.hid hok
  have HW := Lib.hid hw
  have HX := Lib.hid hX
  have q0 : (X.2.fault != 0) = false := by simpa using hf
  have HF := Lib.hid hf
  clear hok hw hX hf
  go_enter Tryz.func12, Tryz.ntmps12
  go_wp2_with (go_at_call 19; (with_reducible refine h.mono ?_); rintro e w1 ⟨v, rfl, hown, hb⟩; obtain ⟨a1, c1, rfl, hAt⟩ := at_new hown rfl HOK.out HW.out; refine Hid.out ?_)
  refine Lib.hid ?_
  have hB1 := (Blk.new w (ncs zeroN) 25).call hb
  have hbw : Below w.heap.size w w1 := bel1.trans (hb.mono (by simp))
  have hlt : w.heap.size < w1.heap.size := hB1.lt
  have E0 := Env.start hAt
  have c2 := stmts_end (low_any 100 0 rfl) E0.at_
  have HX2 := HX.out
  simp only at c2
  rw [HX2] at c2
  have hr0 := hB1.old (.cells (rpcs a1 l.length c1) 54)
  have HE0 := Lib.hid E0
  have HB1 := Lib.hid hr0
  have HBW := Lib.hid (hbw.trans ((bel1 (o := .cells (rpcs a1 l.length c1) 54)).mono (Nat.le_of_lt hlt)))
  have HLT := Lib.hid hlt
  clear hown hb hAt E0 hr0 hB1 hbw h HX2
  go_wp2_with (go_at_call 20; (with_reducible refine c2.mono ?_); intro e w2 hp; have hb2 := HB1.out.gb (hp_gb hp) (by omega); obtain ⟨S2, rfl, E2⟩ := HE0.out.callL hp 44 0 noS; have E3 := E2.newAt (kidN 44 ⟨S2.a, S2.n, S2.c⟩) (b := w2.heap.size) rfl; have x3 := E3.e3; have x4 := E3.e4; have l3 := E3.ld 0 rfl; have B3 := hb2.old (.cells (ncs (kidN 44 ⟨S2.a, S2.n, S2.c⟩)) 25); have s3 := run_stN (t := kidN 44 ⟨S2.a, S2.n, S2.c⟩) B3; have s0 := run_stN (t := zeroN) B3; have s0d := run_stN (t := zeroN) B3.drew; have x3r := cell_row (cs := ncs zeroN) E3.drew1.e3 (b := w.heap.size) (by have := HLT.out; omega); have x4r := cell_row (cs := ncs zeroN) E3.drew1.e4 (b := w.heap.size) (by have := HLT.out; omega); have HB3 := Lib.hid B3; have HE3 := Lib.hid E3; clear hp E2 E3 hb2 B3)
  refine bodyPost_ret (res_NII rfl _ _ w.heap.size _ _ _ rfl rfl rfl (HB3.out.row _)) rfl ⟨_, rfl, ?_, ?_⟩
  · refine Rep.keep (fun b hb hS => ⟨?_, setRow_other _ _ _ _ ?_⟩) _ _ (HE3.out.rp _ List.mem_cons_self)
    · have h1 := hS.1.resolve_left id
      have := HLT.out
      simp at h1
      show w.heap.size ≤ b
      omega
    · have h1 := hS.1.resolve_left id
      have := HLT.out
      simp at h1
      omega
  · have := HLT.out
    exact below_row (GB.below HBW.out HE3.out.gb (by simp; omega) (by omega)) _ (Nat.le_refl _)
set_option maxRecDepth 100000 in
set_option maxHeartbeats 4000000 in
theorem parse_fail {p : Nat} {l : List Tok} (a0 : Option Addr) (n0 c0 : Nat) (w : World) (h : Calls Tryz.prog 19 #[.slice a0 n0 c0] (w.alloc (.cells (ncs zeroN) 25)) (RTok 0 p l (w.alloc (.cells (ncs zeroN) 25)))) (hok : OkS ⟨l, 0, 0⟩) (hw : WordsOk l) {X : List Tree × PS} (hX : stmtsF (rlowG 100) endF (l.length + 1) ⟨l, 0, 0⟩ = X) (hf : X.2.fault ≠ 0) :
    Calls Tryz.prog 12 #[.slice a0 n0 c0] w (RPost (zeroT, X.2.pos, X.2.fault) w) := by
  have hgw : w.heap.size < (w.alloc (.cells (ncs zeroN) 25)).heap.size := by simp
  have HOK := Lib.hid hok
  have HW := Lib.hid hw
  have HX := Lib.hid hX
  have q0 : (X.2.fault != 0) = true := by simpa using hf
  have HF := Lib.hid hf
  clear hok hw hX hf
  go_enter Tryz.func12, Tryz.ntmps12
  go_wp2_with (go_at_call 19; (with_reducible refine h.mono ?_); rintro e w1 ⟨v, rfl, hown, hb⟩; obtain ⟨a1, c1, rfl, hAt⟩ := at_new hown rfl HOK.out HW.out; refine Hid.out ?_)
  refine Lib.hid ?_
  have hB1 := (Blk.new w (ncs zeroN) 25).call hb
  have hbw : Below w.heap.size w w1 := bel1.trans (hb.mono (by simp))
  have hlt : w.heap.size < w1.heap.size := hB1.lt
  have E0 := Env.start hAt
  have c2 := stmts_end (low_any 100 0 rfl) E0.at_
  have HX2 := HX.out
  simp only at c2
  rw [HX2] at c2
  have hr0 := hB1.old (.cells (rpcs a1 l.length c1) 54)
  have HE0 := Lib.hid E0
  have HB1 := Lib.hid hr0
  have HBW := Lib.hid (hbw.trans ((bel1 (o := .cells (rpcs a1 l.length c1) 54)).mono (Nat.le_of_lt hlt)))
  have HLT := Lib.hid hlt
  clear hown hb hAt E0 hr0 hB1 hbw h HX2
  go_wp2_with (go_at_call 20; (with_reducible refine c2.mono ?_); intro e w2 hp; have hb2 := HB1.out.gb (hp_gb hp) (by omega); obtain ⟨S2, rfl, E2⟩ := HE0.out.callL hp 44 0 noS; have E3 := E2.newAt (kidN 44 ⟨S2.a, S2.n, S2.c⟩) (b := w2.heap.size) rfl; have x3 := E3.e3; have x4 := E3.e4; have l3 := E3.ld 0 rfl; have B3 := hb2.old (.cells (ncs (kidN 44 ⟨S2.a, S2.n, S2.c⟩)) 25); have s3 := run_stN (t := kidN 44 ⟨S2.a, S2.n, S2.c⟩) B3; have s0 := run_stN (t := zeroN) B3; have s0d := run_stN (t := zeroN) B3.drew; have x3r := cell_row (cs := ncs zeroN) E3.drew1.e3 (b := w.heap.size) (by have := HLT.out; omega); have x4r := cell_row (cs := ncs zeroN) E3.drew1.e4 (b := w.heap.size) (by have := HLT.out; omega); have HB3 := Lib.hid B3; have HE3 := Lib.hid E3; clear hp E2 E3 hb2 B3)
  go_region
  all_goals go_wp2
  all_goals (
    have := HLT.out
    exact bodyPost_ret (res_NII rfl _ _ w.heap.size zeroN _ _ rfl rfl rfl (HB3.out.drew.row _)) rfl ⟨zeroN, rfl, Rep.nil _ _ _ _ _, below_row ((GB.below HBW.out HE3.out.gb (by simp; omega) (by omega)).drew) _ (Nat.le_refl _)⟩)
theorem parse_any {q p : Nat} {l : List Tok} (a0 : Option Addr) (n0 c0 : Nat) (w : World) (h : Calls Tryz.prog 19 #[.slice a0 n0 c0] (w.alloc (.cells (ncs zeroN) 25)) (RTok q p l (w.alloc (.cells (ncs zeroN) 25)))) (hok : q = 0 → OkS ⟨l, 0, 0⟩ ∧ WordsOk l) :
    Calls Tryz.prog 12 #[.slice a0 n0 c0] w (RPost (if q = 0 then treeF l else (zeroT, (p : Int), (q : Int))) w) := by
  by_cases hq : q = 0
  · subst hq
    rw [if_pos rfl, ← tree_eqG (hok rfl).1]
    unfold rtreeG
    obtain ⟨X, hX⟩ : ∃ X, stmtsF (rlowG 100) endF (l.length + 1) ⟨l, 0, 0⟩ = X := ⟨_, rfl⟩
    rw [hX]
    simp only
    by_cases hf : X.2.fault = 0
    · rw [if_pos hf]; exact parse_good a0 n0 c0 w h (hok rfl).1 (hok rfl).2 hX hf
    · rw [if_neg hf]; exact parse_fail a0 n0 c0 w h (hok rfl).1 (hok rfl).2 hX hf
  · rw [if_neg hq]; exact parse_bad a0 n0 c0 w h hq
end Go.Proofs.YtinoaajohkafmaaGreat.Rp

/-
  The reference's Tokens at a text of names and signs.
-/
namespace Go.Proofs.YtinoaajohkafmaaGreat.Rl
open Go Go.RowKit Go.Proofs.YtinoaajohkafmaaGreat.Uni Go.Proofs.YtinoaajohkafmaaGreat.Lx
set_option linter.unusedVariables false
set_option linter.unusedSimpArgs false
inductive RTk (s : ByteArray) : Nat → List Tok → Prop
  | fin (p : Nat) : goF whiteN s (s.size - p) p = s.size → RTk s p [⟨0, s.size, 0, ⟨#[]⟩⟩]
  | name (p q e k : Nat) (x : ByteArray) (l : List Tok) : goF whiteN s (s.size - p) p = q → q < s.size → leadN (B s q) = true → goF contN s (s.size - q) q = e → s.extract q e = x → wordF x.toList = k → k ≠ 2 → RTk s e l → RTk s p (⟨1 + (k : Int), q, 0, x⟩ :: l)
  | sign (p q i : Nat) (l : List Tok) : goF whiteN s (s.size - p) p = q → q < s.size → leadN (B s q) = false → digitN (B s q) = false → B s q ≠ 34 → B s q ≠ 39 → i < 26 → (∀ j, j < i → restB s q (sgn j) = false) → restB s q (sgn i) = true → RTk s (q + (sgn i).size) l → RTk s p (⟨5, q, 0, sgn i⟩ :: l)
  | one (p q : Nat) (l : List Tok) : goF whiteN s (s.size - p) p = q → q + 1 < s.size → B s q = 49 → leadN (B s (q + 1)) = false → digitN (B s (q + 1)) = false → RTk s (q + 1) l → RTk s p (⟨3, q, 1, ⟨#[]⟩⟩ :: l)
def BxL (v : Value) : Sem Value := Instr.box 71 v
theorem bxL (v : Value) : Instr.box 71 v = BxL v := (rfl)
theorem bdL (ps : Array (Nat × Value)) : Instr.build 71 ps = Bd 71 ps := (rfl)
theorem run_bdL (w : World) (s : ByteArray) : (Bd 71 #[(0, .string s)]).run Tryz.prog w = .ok (.agg (lxs s 0 false Pa.nilSl)) w := run_build w _ _ _ (by kernel_rfl)
theorem run_bxL (s : ByteArray) (w : World) : (BxL (.agg (lxs s 0 false Pa.nilSl))).run Tryz.prog w = .ok (ptr w.heap.size) (w.alloc (.cells (lxs s 0 false Pa.nilSl) 71)) := by
  unfold BxL
  simp [Instr.box, newVar, newRow, Value.cells, go_sem, ptr]
theorem name_on {s : ByteArray} {q e : Nat} (hq : q < s.size) (hl : leadN (B s q) = true) (he : goF contN s (s.size - q) q = e) : q < e ∧ e ≤ s.size := by
  have hc : contN (B s q) = true := by unfold contN; rw [hl]; rfl
  rw [goF_go hq hc] at he
  have := goF_le contN s (s.size - (q + 1)) (q + 1) (by omega)
  omega
theorem sign_on {s : ByteArray} {q i : Nat} (hi : i < 26) (hr : restB s q (sgn i) = true) : q < q + (sgn i).size ∧ q + (sgn i).size ≤ s.size := by
  have := sgn_size i hi
  unfold restB at hr
  simp only [Bool.and_eq_true, decide_eq_true_eq] at hr
  have := hr.1
  omega
theorem LxS.endd {g lo p : Nat} {s : ByteArray} {b : Bool} {T : List Tok} {w W : World} {S : Pa.Sl} (h : LxS g lo s p b T w W S) (hT : T.length ≤ 200000) (t : Tok) :
    ∃ a n c w', (Builtin.append_ #[49, 49] 49 #[.slice S.a S.n S.c, .slice (some ⟨W.heap.size, 0, none⟩) 1 1]).run Tryz.prog (W.alloc (.cells (kcs t) 73)).drew.drew = .ok (.slice a n c) w' ∧ w'.ownsRow lo 73 4 (.slice a n c) (T ++ [t]).length (tcells (T ++ [t])) ∧ Below lo w w' := by
  have hd := h.drew.drew
  have hgl : g < W.heap.size := Blk.lt h.at_
  have hlg := h.lg
  have hlo : lo ≤ W.heap.size := by omega
  obtain ⟨a, n, c, w', h1, h2, h3, h4⟩ := grow_tok hd.own t hlo hT
  have hb : Below lo w (W.drew.drew.alloc (.cells (kcs t) 73)) := hd.fr.trans ((bel1 (w := W.drew.drew)).mono hlo)
  exact ⟨a, n, c, w', h1, h2, hb.grown h3 (by simp; omega) (fun k hk => (hd.own.lt k hk).1)⟩
structure TkI (s : ByteArray) (L : List Tok) (w wr : World) (p : Nat) (T l : List Tok) (S : Pa.Sl) : Prop where
  ls : LxS w.heap.size w.heap.size s p false T w wr S
  le : p ≤ s.size
  tk : RTk s p l
  eq : T ++ l = L
theorem LxS.start (s : ByteArray) (w : World) : LxS w.heap.size w.heap.size s 0 false [] w (w.alloc (.cells (lxs s 0 false Pa.nilSl) 71)) Pa.nilSl :=
  ⟨Blk.new w _ _, World.ownsRow_nil _ _ _ _, by simp [Pa.nilSl, Value.ownBlock], bel1, Nat.le_refl _⟩
theorem LxS.sp {g lo p q : Nat} {s : ByteArray} {T : List Tok} {w W W' : World} {S : Pa.Sl} (h : LxS g lo s p false T w W S) (ha : LxAt g s q false S W' ∧ GB g W W') : LxS g lo s q false T w W' S := h.gb ha.1 ha.2
attribute [local irreducible] kcs lxs
attribute [local go_sem ↓] bdL bxL bdK bsK
attribute [local go_sem] run_bdL run_bxL run_bdKe run_bsK
set_option maxRecDepth 100000 in
set_option maxHeartbeats 4000000 in
theorem tokens_plain {s : ByteArray} {L : List Tok} (hL : RTk s 0 L) (hn : L.length ≤ 200000) (hs : s.size ≤ 65536) (hpl : Plain s) (ha : ∀ j, j < s.size → B s j < 128) (a0 : Option Addr) (c0 : Nat) (w : World) (hcv : (convert 33 9 (.slice a0 s.size c0)).run Tryz.prog w = .ok (.string s) w) :
    Calls Tryz.prog 19 #[.slice a0 s.size c0] w (Rp.RTok 0 0 L w) := by
  have hn1 : decide ((65536 : Int) < (s.size : Int)) = false := by simp; omega
  have cu := utf8_ascii s w (by omega) ha
  have HST := Lib.hid (TkI.mk (LxS.start s w) (Nat.zero_le _) hL rfl)
  have HPL := Lib.hid hpl
  clear hL ha hpl
  go_enter Tryz.func19, Tryz.ntmps19
  go_wp2_with (go_at_call 33; (with_reducible refine cu.mono ?_); rintro r w1 ⟨rfl, rfl⟩)
  go_loopw [] (fun wr => ∃ p T l S, TkI s L w1 wr p T l S) (fun wr => measL w1.heap.size (s.size + 1) wr)
  case atStart => exact ⟨_, _, _, _, HST.out⟩
  case round =>
    obtain ⟨p, T, l, S, hI⟩ := hrel
    have hmeas := hI.ls.at_.meas (n := s.size + 1)
    have HM := Lib.hid hmeas
    have cs := space_any hI.ls.at_ (by omega) hI.le HPL.out
    have htk := hI.tk
    have HEQ := Lib.hid hI.eq
    have hlen : T.length + l.length ≤ 200000 := by rw [← hI.eq, List.length_append] at hn; exact hn
    have hpq := (goF_le whiteN s (s.size - p) p hI.le).1
    have HI := Lib.hid hI
    clear hI HST cu hmeas
    cases htk with
    | fin _ hq =>
      rw [hq] at cs
      have hT : T.length ≤ 200000 := by omega
      go_wp2_with (go_at_call 34; (with_reducible refine cs.mono ?_); rintro r w2 ⟨rfl, ha⟩; have L2 := HI.out.ls.sp ha; have b2 := L2.at_.c2; have d0 := L2.drew.at_.c0; have d1 := L2.drew.at_.c1; have d3 := L2.drew.drew.at_.c3; have dd0 := L2.drew.drew.at_.c0; have LA := (L2.below (bel1 (o := .cells (kcs ⟨0, s.size, 0, ⟨#[]⟩⟩) 73))).drew.drew; have a3 := LA.at_.c3; have a0' := LA.at_.c0; obtain ⟨a6, n6, cc6, w6, hrun, hown, hbel⟩ := L2.endd hT ⟨0, s.size, 0, ⟨#[]⟩⟩; rw [HEQ.out] at hown; have HO := Lib.hid hown; have HB := Lib.hid hbel; clear LA hown hbel; clear ha L2)
      go_region
      all_goals go_wp2
      all_goals go_region_law (refine Pa.step_app rfl (.tmp 47) (.tmp 54) 49 rfl rfl _ _ _ (by simp [Act.eval, Act.put]) (by simp [Act.eval, Act.put]) hrun ?_)
      all_goals (
        go_wp2
        refine bodyPost_ret (results_tmp3 rfl _ _ _) rfl ?_
        exact ⟨_, rfl, HO.out, HB.out⟩)
    | name _ q e k x l2 hq hq2 hl he hx hk hk2 htl =>
      rw [hq] at cs
      rw [hq] at hpq
      have hon := name_on hq2 hl he
      have hqi : decide ((s.size : Int) ≤ (q : Int)) = false := by simp; omega
      have hT : T.length ≤ 200000 := by omega
      go_wp2_with (go_at_call 34; (with_reducible refine cs.mono ?_); rintro r w2 ⟨rfl, ha⟩; have L2 := HI.out.ls.sp ha; have b2 := L2.at_.c2; have d0 := L2.drew.at_.c0; have d1 := L2.drew.at_.c1; have HCT := Lib.hid (token_name L2.drew (by omega) hq2 hl hT he hx hk hk2); clear ha L2)
      go_region
      all_goals go_wp2_with (go_at_call 35; (with_reducible refine HCT.out.mono ?_); rintro r w3 ⟨rfl, S3, L3⟩; have b3 := L3.at_.c2; have hm3 := L3.at_.meas (n := s.size + 1); have HL3 := Lib.hid L3; clear L3)
      all_goals go_roundw
      all_goals first
        | exact ⟨_, _, _, _, HL3.out, hon.2, htl, by rw [← HEQ.out]; simp⟩
        | (rw [hm3, HM.out]; omega)
    | sign _ q i l2 hq hq2 hl hd hn34 hn39 hi hmin hr htl =>
      rw [hq] at cs
      rw [hq] at hpq
      have hon := sign_on hi hr
      have hqi : decide ((s.size : Int) ≤ (q : Int)) = false := by simp; omega
      have hT : T.length ≤ 200000 := by omega
      go_wp2_with (go_at_call 34; (with_reducible refine cs.mono ?_); rintro r w2 ⟨rfl, ha⟩; have L2 := HI.out.ls.sp ha; have b2 := L2.at_.c2; have d0 := L2.drew.at_.c0; have d1 := L2.drew.at_.c1; have HCT := Lib.hid (token_sign L2.drew (by omega) hq2 hl hd hn34 hn39 hT hi hmin hr); clear ha L2)
      go_region
      all_goals go_wp2_with (go_at_call 35; (with_reducible refine HCT.out.mono ?_); rintro r w3 ⟨rfl, S3, L3⟩; have b3 := L3.at_.c2; have hm3 := L3.at_.meas (n := s.size + 1); have HL3 := Lib.hid L3; clear L3)
      all_goals go_roundw
      all_goals first
        | exact ⟨_, _, _, _, HL3.out, hon.2, htl, by rw [← HEQ.out]; simp⟩
        | (rw [hm3, HM.out]; omega)
    | one _ q l2 hq hq2 hb hl2 hd2 htl =>
      rw [hq] at cs
      rw [hq] at hpq
      have hon : q < q + 1 ∧ q + 1 ≤ s.size := by omega
      have hqi : decide ((s.size : Int) ≤ (q : Int)) = false := by simp; omega
      have hT : T.length ≤ 200000 := by omega
      go_wp2_with (go_at_call 34; (with_reducible refine cs.mono ?_); rintro r w2 ⟨rfl, ha⟩; have L2 := HI.out.ls.sp ha; have b2 := L2.at_.c2; have d0 := L2.drew.at_.c0; have d1 := L2.drew.at_.c1; have HCT := Lib.hid (token_one L2.drew (by omega) hq2 hb hl2 hd2 hT); clear ha L2)
      go_region
      all_goals go_wp2_with (go_at_call 35; (with_reducible refine HCT.out.mono ?_); rintro r w3 ⟨rfl, S3, L3⟩; have b3 := L3.at_.c2; have hm3 := L3.at_.meas (n := s.size + 1); have HL3 := Lib.hid L3; clear L3)
      all_goals go_roundw
      all_goals first
        | exact ⟨_, _, _, _, HL3.out, hon.2, htl, by rw [← HEQ.out]; simp⟩
        | (rw [hm3, HM.out]; omega)
end Go.Proofs.YtinoaajohkafmaaGreat.Rl

/-
  The reference's Parse at a text of names and signs.
-/
namespace Go.Proofs.YtinoaajohkafmaaGreat.Rl
open Go Go.RowKit Go.Proofs.YtinoaajohkafmaaGreat.Uni Go.Proofs.YtinoaajohkafmaaGreat.Lx
set_option linter.unusedVariables false
set_option linter.unusedSimpArgs false
theorem okl_cons {t : Tok} {l : List Tok} (h : Pa.okL l) : Pa.okL (t :: l) := by
  cases l with
  | nil => exact h.elim
  | cons u r => exact h
theorem ext_first {s : ByteArray} {q e : Nat} (hqe : q < e) : B (s.extract q e) 0 = B s q := by
  have h : (s.extract q e).data.toList = (s.data.toList.drop q).take (e - q) := by simp [ByteArray.data_extract]
  unfold B
  rw [h, List.getElem?_take_of_lt (by omega), List.getElem?_drop]
  rfl
theorem rtk_facts {s : ByteArray} {p : Nat} {L : List Tok} (h : RTk s p L) : Pa.okL L ∧ (∀ t ∈ L, 0 ≤ t.num ∧ t.num ≤ 1) ∧ Rp.WordsOk L := by
  induction h with
  | fin p hq =>
    refine ⟨.inl rfl, fun t ht => by rw [List.mem_singleton.1 ht]; exact ⟨by simp, by simp⟩, ?_⟩
    intro t ht hk
    rw [List.mem_singleton.1 ht] at hk
    exact absurd hk (by simp)
  | name p q e k x l h1 h2 h3 h4 h5 h6 h7 _ ih =>
    refine ⟨okl_cons ih.1, ?_, ?_⟩
    · intro t ht
      rcases List.mem_cons.1 ht with rfl | ht
      · exact ⟨by simp, by simp⟩
      · exact ih.2.1 t ht
    · intro t ht hk
      rcases List.mem_cons.1 ht with rfl | ht
      · intro hx
        have hon := name_on h2 h3 h4
        have hf := ext_first (s := s) hon.1
        rw [h5] at hf
        simp only at hx
        rw [hx] at hf
        rw [← hf] at h3
        exact absurd h3 (by decide)
      · exact ih.2.2 t ht hk
  | sign p q i l h1 h2 h3 h4 h5 h6 h7 h8 h9 _ ih =>
    refine ⟨okl_cons ih.1, ?_, ?_⟩
    · intro t ht
      rcases List.mem_cons.1 ht with rfl | ht
      · exact ⟨by simp, by simp⟩
      · exact ih.2.1 t ht
    · intro t ht hk
      rcases List.mem_cons.1 ht with rfl | ht
      · exact absurd hk (by simp)
      · exact ih.2.2 t ht hk
  | one p q l h1 h2 h3 h4 h5 _ ih =>
    refine ⟨okl_cons ih.1, ?_, ?_⟩
    · intro t ht
      rcases List.mem_cons.1 ht with rfl | ht
      · exact ⟨by simp, by simp⟩
      · exact ih.2.1 t ht
    · intro t ht hk
      rcases List.mem_cons.1 ht with rfl | ht
      · exact absurd hk (by simp)
      · exact ih.2.2 t ht hk
theorem rtk_ok {s : ByteArray} {L : List Tok} (h : RTk s 0 L) (hn : L.length ≤ 100000) : Pa.OkS ⟨L, 0, 0⟩ ∧ Rp.WordsOk L := by
  obtain ⟨h1, h2, h3⟩ := rtk_facts h
  exact ⟨⟨h1, fun hf => absurd rfl hf, fun t ht => by have := h2 t ht; omega, hn⟩, h3⟩
theorem rparse_plain {s : ByteArray} {L : List Tok} (hL : RTk s 0 L) (hn : L.length ≤ 100000) (hs : s.size ≤ 65536) (hpl : Plain s) (ha : ∀ j, j < s.size → B s j < 128) (a0 : Option Addr) (c0 : Nat) (w : World) (hcv : (convert 33 9 (.slice a0 s.size c0)).run Tryz.prog (w.alloc (.cells (Pa.ncs Pa.zeroN) 25)) = .ok (.string s) (w.alloc (.cells (Pa.ncs Pa.zeroN) 25))) :
    Calls Tryz.prog 12 #[.slice a0 s.size c0] w (Rp.RPost (Pa.treeF L) w) := by
  have h := Rp.parse_any (q := 0) (p := 0) (l := L) a0 s.size c0 w (tokens_plain hL (by omega) hs hpl ha a0 c0 _ hcv) (fun _ => rtk_ok hL hn)
  rw [if_pos rfl] at h
  exact h
end Go.Proofs.YtinoaajohkafmaaGreat.Rl
