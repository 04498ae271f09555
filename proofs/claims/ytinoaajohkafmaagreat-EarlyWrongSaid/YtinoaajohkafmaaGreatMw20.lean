/-
  Texts of this seat in build order: RpEq, RpMemb.
-/
import Derived.Test.YtinoaajohkafmaaGreatMw15
import Derived.Test.YtinoaajohkafmaaGreatMw19
/-
  Plain mathematics: the reference's parser gives what the program's gives.
-/
namespace Go.Proofs.YtinoaajohkafmaaGreat.Rp
open Go.Proofs.YtinoaajohkafmaaGreat.Pa
open Go.Proofs.YtinoaajohkafmaaGreat.Lx
set_option linter.unusedVariables false
set_option linter.unusedSimpArgs false
def Eqv {T : Type} (x y : T × PS) : Prop := x.2 = y.2 ∧ (y.2.fault = 0 → x.1 = y.1)
structure LowEq (L M : Low) : Prop where
  ex : ∀ s, OkS s → Eqv (L.ex s) (M.ex s)
  st : ∀ s, OkS s → Eqv (L.st s) (M.st s)
  un : ∀ s, OkS s → Eqv (L.un s) (M.un s)
theorem Eqv.rfl' {T : Type} (x : T × PS) : Eqv x x := ⟨rfl, fun _ => rfl⟩
theorem Eqv.eq {T : Type} {x y : T × PS} (h : Eqv x y) (hf : y.2.fault = 0) : x = y := Prod.ext (h.2 hf) h.1
theorem back {s t : PS} (h : Adv s t) (hs : OkS s) (hf : t.fault = 0) : s.fault = 0 := by
  by_cases h0 : s.fault = 0
  · exact h0
  · have := (h hs).2.2 h0
    rw [this] at hf
    exact hf
theorem stay {s t : PS} (h : Adv s t) (hs : OkS s) (hf : s.fault ≠ 0) : t = s := (h hs).2.2 hf
section
variable {L M : Low}
theorem more_eq {T : Type} {el em : PS → T × PS} (he : ∀ s, OkS s → Eqv (el s) (em s)) (hm : ∀ s, Adv s (em s).2) : ∀ f s, OkS s → Eqv (moreF el f s) (moreF em f s)
  | 0, s, _ => Eqv.rfl' _
  | f + 1, s, hs => by
    unfold moreF
    split
    · rename_i h
      have o1 := (take_adv (sees_kind h) hs).1
      have e1 := he _ o1
      have o2 := (hm _ o1).1
      have e2 := more_eq he hm f _ o2
      have a2 := more_adv hm f (em s.take).2
      simp only
      rw [e1.1]
      refine ⟨e2.1, fun hf => ?_⟩
      simp only at hf ⊢
      rw [e1.2 (back a2 o2 hf), e2.2 hf]
    · exact Eqv.rfl' _
theorem rlist_adv {T : Type} {el : PS → T × PS} (hel : ∀ s, Adv s (el s).2) (x : ByteArray) (s : PS) : Adv s (rlistF x el s).2 := by
  unfold rlistF
  split
  · exact (hel s).trans (more_adv hel _ _)
  · exact Adv.refl s
theorem list_eq {T : Type} {el em : PS → T × PS} (he : ∀ s, OkS s → Eqv (el s) (em s)) (hm : ∀ s, Adv s (em s).2) (fin : ByteArray) (s : PS) (hs : OkS s) : Eqv ((rlistF fin el s).1, needsF fin (rlistF fin el s).2) (listF fin em s) := by
  unfold rlistF listF
  by_cases h0 : s.fault = 0
  · cases h : seesF fin s with
    | true =>
      rw [if_neg (by simp), if_pos rfl]
      have e : needsF fin s = s.take := by unfold needsF; rw [h]; rfl
      rw [e]
      exact Eqv.rfl' _
    | false =>
      rw [if_pos ⟨h0, rfl⟩, if_neg (by simp)]
      have e1 := he s hs
      have o1 := (hm s hs).1
      have e2 := more_eq he hm (em s).2.left.length _ o1
      have a2 := more_adv hm (em s).2.left.length (em s).2
      simp only
      rw [e1.1]
      refine ⟨by simp only [e2.1], fun hf => ?_⟩
      simp only at hf ⊢
      have f2 := back (needs_adv _ _) (a2 o1).1 hf
      rw [e1.2 (back a2 o1 f2), e2.2 f2]
  · have hl := hs.st h0
    have hn : s.next = stopK := by unfold PS.next; rw [hl]; rfl
    have h : ∀ x, seesF x s = false := fun x => by unfold seesF markF; rw [hn]; rfl
    rw [if_neg (by intro hh; exact h0 hh.1), h fin, if_neg (by simp)]
    have e1 := stay (hm s) hs h0
    have e2 := stay (more_adv hm (em s).2.left.length (em s).2) (hm s hs).1 (by rw [e1]; exact h0)
    refine ⟨?_, fun hf => ?_⟩
    · simp only
      rw [e2, e1]
    · simp only at hf
      rw [e2, e1] at hf
      exact absurd (back (needs_adv _ _) hs hf) h0
theorem name_eq (s : PS) (hs : OkS s) : Eqv (nameF s) (nameF s) := Eqv.rfl' _
theorem args_eq (h : LowEq L M) (hM : LowA M) (s : PS) (hs : OkS s) : Eqv (rargsF L s) (listF ⟨#[41]⟩ M.ex (needsF ⟨#[40]⟩ s)) := list_eq h.ex hM.ex _ _ (needs_adv _ s hs).1
theorem stmts_eq (h : LowEq L M) (hM : LowA M) (fin : PS → Bool) : ∀ f s, OkS s → Eqv (stmtsF L fin f s) (stmtsF M fin f s)
  | 0, s, _ => Eqv.rfl' _
  | f + 1, s, hs => by
    unfold stmtsF
    split
    · exact Eqv.rfl' _
    · split
      · exact Eqv.rfl' _
      · have e1 := h.st s hs
        have o1 := (hM.st s hs).1
        have e2 := stmts_eq h hM fin f _ o1
        have a2 := stmts_adv hM fin f (M.st s).2
        simp only
        rw [e1.1]
        refine ⟨e2.1, fun hf => ?_⟩
        simp only at hf ⊢
        rw [e1.2 (back a2 o1 hf), e2.2 hf]
theorem block_eq (h : LowEq L M) (hM : LowA M) (s : PS) (hs : OkS s) : Eqv (blockF L s) (blockF M s) := by
  unfold blockF
  have o1 := (needs_adv ⟨#[123]⟩ s hs).1
  have e := stmts_eq h hM (seesF ⟨#[125]⟩) ((needsF ⟨#[123]⟩ s).left.length + 1) _ o1
  have a := stmts_adv hM (seesF ⟨#[125]⟩) ((needsF ⟨#[123]⟩ s).left.length + 1) (needsF ⟨#[123]⟩ s)
  refine ⟨by simp only [e.1], fun hf => ?_⟩
  simp only at hf ⊢
  rw [e.2 (back (needs_adv _ _) (a o1).1 hf)]
theorem paren_eq (h : LowEq L M) (hM : LowA M) (s : PS) (hs : OkS s) : Eqv (parenF L s) (parenF M s) := by
  unfold parenF
  have o1 := (needs_adv ⟨#[40]⟩ s hs).1
  have e := h.ex _ o1
  exact ⟨by simp only [e.1], fun hf => e.2 (back (needs_adv _ _) (hM.ex _ o1).1 hf)⟩
theorem func_eq (h : LowEq L M) (hM : LowA M) (n : ByteArray) (s : PS) (hs : OkS s) : Eqv (rfuncF L n s) (funcF M n s) := by
  unfold rfuncF funcF
  have o1 := (needs_adv ⟨#[40]⟩ s hs).1
  have e := list_eq name_eq name_adv ⟨#[41]⟩ _ o1
  have o2 := (list_adv name_adv ⟨#[41]⟩ _ o1).1
  have e1 := e.1
  simp only at e1
  have e2 := block_eq h hM _ o2
  have a2 := block_adv hM (listF ⟨#[41]⟩ nameF (needsF ⟨#[40]⟩ s)).2
  simp only
  rw [e1]
  refine ⟨e2.1, fun hf => ?_⟩
  simp only at hf ⊢
  have := e.2 (back a2 o2 hf)
  simp only at this
  rw [this, e2.2 hf]
theorem pair_eq (h : LowEq L M) (hM : LowA M) (k k' : Tree) (s : PS) (hs : OkS s) (hk : (pairF M k' s).2.fault = 0 → k = k') : Eqv (pairF L k s) (pairF M k' s) := by
  unfold pairF at hk ⊢
  have e := h.ex _ (needs_adv ⟨#[58]⟩ s hs).1
  refine ⟨e.1, fun hf => ?_⟩
  simp only at hf hk ⊢
  rw [e.2 hf, hk hf]
theorem get_eq (h : LowEq L M) (hM : LowA M) (s : PS) (hs : OkS s) : Eqv (getF L s) (getF M s) := by
  unfold getF
  have o := ((((key_adv s).nd (x := ⟨#[40]⟩)).nd (x := ⟨#[41]⟩)) hs).1
  have e := block_eq h hM _ o
  refine ⟨e.1, fun hf => ?_⟩
  simp only at hf ⊢
  rw [e.2 hf]
theorem set_eq (h : LowEq L M) (hM : LowA M) (s : PS) (hs : OkS s) : Eqv (setF L s) (setF M s) := by
  unfold setF
  have o := ((((key_adv s).nd (x := ⟨#[40]⟩)).by name_adv).nd (x := ⟨#[41]⟩) hs).1
  have e := block_eq h hM _ o
  refine ⟨e.1, fun hf => ?_⟩
  simp only at hf ⊢
  rw [e.2 hf]
theorem elem_eq (h : LowEq L M) (hM : LowA M) (s : PS) (hs : OkS s) : Eqv (elemF L s) (elemF M s) := by
  unfold elemF
  split
  · rename_i hh
    have o1 := (take_adv (sees_kind hh) hs).1
    have e := h.ex _ o1
    have a := hM.ex s.take
    simp only
    rw [e.1]
    have o2 := (a.nd (x := ⟨#[93]⟩) o1).1
    exact pair_eq h hM _ _ _ o2 (fun hf => e.2 (back (needs_adv _ _) (a o1).1 (back (pair_adv hM _ _) o2 hf)))
  · have o := (key_adv s hs).1
    simp only
    split
    · split
      · exact get_eq h hM _ o
      · split
        · exact set_eq h hM _ o
        · exact pair_eq h hM _ _ _ o (fun _ => rfl)
    · exact pair_eq h hM _ _ _ o (fun _ => rfl)
theorem binl_eq {f g : PS → Tree × PS} (he : ∀ s, OkS s → Eqv (f s) (g s)) (hg : ∀ s, Adv s (g s).2) (lev : Nat) : ∀ k l l' s, OkS s → ((binLoop lev g k l' s).2.fault = 0 → l = l') → Eqv (binLoop lev f k l s) (binLoop lev g k l' s)
  | 0, l, l', s, _, hl => ⟨rfl, hl⟩
  | k + 1, l, l', s, hs, hl => by
    unfold binLoop at hl ⊢
    by_cases h : seesOneF (levelT lev) s = true
    · rw [if_pos h] at hl
      rw [if_pos h, if_pos h]
      have o1 := (take_adv (one_kind h) hs).1
      have e1 := he _ o1
      have o2 := (hg _ o1).1
      simp only at hl ⊢
      rw [e1.1]
      have a2 := binl_adv hg lev k
      refine binl_eq he hg lev k _ _ _ o2 (fun hf => ?_)
      rw [hl hf, e1.2 (back (a2 _ _) o2 hf)]
    · rw [if_neg h] at hl
      rw [if_neg h, if_neg h]
      exact ⟨rfl, hl⟩
theorem bin_eq (h : LowEq L M) (hM : LowA M) : ∀ n s, OkS s → Eqv (binF L n s) (binF M n s)
  | 0, s, hs => h.un s hs
  | n + 1, s, hs => by
    unfold binF
    have e1 := bin_eq h hM n s hs
    have a1 := bin_adv hM n
    have o1 := (a1 s hs).1
    simp only
    rw [e1.1]
    exact binl_eq (fun s hs => bin_eq h hM n s hs) a1 _ _ _ _ _ o1 (fun hf => e1.2 (back (binl_adv a1 _ _ _ _) o1 hf))
theorem cond_eq (h : LowEq L M) (hM : LowA M) (s : PS) (hs : OkS s) : Eqv (condF L s) (condF M s) := by
  unfold condF
  have e1 := bin_eq h hM 6 s hs
  have o1 := (bin_adv hM 6 s hs).1
  simp only
  rw [e1.1]
  split
  · rename_i hh
    have o2 := (take_adv (sees_kind hh) o1).1
    have e2 := h.ex _ o2
    have o3 := ((hM.ex _).nd (x := ⟨#[58]⟩) o2).1
    have e3 := h.ex _ o3
    rw [e2.1]
    refine ⟨e3.1, fun hf => ?_⟩
    simp only at hf ⊢
    have f3 := back (hM.ex _) o3 hf
    have f2 := back (needs_adv _ _) ((hM.ex _) o2).1 f3
    have f1 := back ((take_adv (sees_kind hh)).trans (hM.ex _)) o1 f2
    rw [e1.2 f1, e2.2 f2, e3.2 hf]
  · exact e1
theorem ex_eq (h : LowEq L M) (hM : LowA M) (s : PS) (hs : OkS s) : Eqv (rexF L s) (exF M s) := by
  unfold rexF exF
  have e1 := cond_eq h hM s hs
  have o1 := (cond_adv hM s hs).1
  simp only
  rw [e1.1]
  split
  · rename_i hh
    have f1 : (condF M s).2.fault = 0 := o1.live (fun e => (sees_kind hh) (.inr e))
    have t1 := e1.2 f1
    rw [t1]
    split
    · rename_i hk
      have o2 := (fail_adv (condF M s).2 (e := 2) (by decide) o1).1
      have hf2 : ((condF M s).2.fail 2).fault ≠ 0 := by unfold PS.fail; rw [if_pos f1]; exact (by decide : (2 : Int) ≠ 0)
      have n1 := stay (needs_adv ⟨#[61]⟩ _) o2 hf2
      have n2 := stay (hM.ex _) (s := needsF ⟨#[61]⟩ ((condF M s).2.fail 2)) (by rw [n1]; exact o2) (by rw [n1]; exact hf2)
      refine ⟨by simp only; rw [n2, n1], fun hf => ?_⟩
      simp only at hf
      rw [n2, n1] at hf
      exact absurd hf hf2
    · have o2 := (needs_adv ⟨#[61]⟩ _ o1).1
      have e2 := h.ex _ o2
      refine ⟨e2.1, fun hf => ?_⟩
      simp only at hf ⊢
      rw [e2.2 hf]
  · exact e1
theorem prim_eq (h : LowEq L M) (hM : LowA M) (s : PS) (hs : OkS s) : Eqv (rprimF L s) (primF M s) := by
  unfold rprimF primF
  split
  · exact Eqv.rfl' _
  split
  · exact Eqv.rfl' _
  split
  · exact Eqv.rfl' _
  split
  · exact paren_eq h hM s hs
  split
  · rename_i hh
    have o1 := (take_adv (sees_kind hh) hs).1
    have e := list_eq h.ex hM.ex ⟨#[93]⟩ _ o1
    have e1 := e.1
    refine ⟨e1, fun hf => ?_⟩
    simp only at hf ⊢
    have := e.2 hf
    simp only at this
    rw [this]
  split
  · rename_i hh
    have o1 := (take_adv (sees_kind hh) hs).1
    have e := list_eq (elem_eq h hM) (elem_adv hM) ⟨#[125]⟩ _ o1
    have e1 := e.1
    refine ⟨e1, fun hf => ?_⟩
    simp only at hf ⊢
    have := e.2 hf
    simp only at this
    rw [this]
  split
  · rename_i hh
    have o1 := (take_adv (sees_kind hh) hs).1
    simp only
    unfold optF
    by_cases hk : s.take.next.kind = 1
    · rw [if_pos hk]
      have hno : seesF ⟨#[40]⟩ s.take = false := by unfold seesF markF; rw [hk]; rfl
      rw [hno, if_neg (by simp)]
      unfold nameF
      rw [if_pos hk]
      exact func_eq h hM _ _ (take_adv (by rw [hk]; decide) o1).1
    · rw [if_neg hk]
      cases hp : seesF ⟨#[40]⟩ s.take with
      | true => exact func_eq h hM _ _ o1
      | false =>
        simp only [Bool.false_eq_true, if_false]
        unfold nameF
        rw [if_neg hk]
        have f1 : s.take.fault = 0 := hs.live (fun e => (sees_kind hh) (.inr e))
        have hf2 : (s.take.fail 2).fault ≠ 0 := by unfold PS.fail; rw [if_pos f1]; exact (by decide : (2 : Int) ≠ 0)
        have o2 := (fail_adv s.take (e := 2) (by decide) o1).1
        have n2 := stay (func_adv hM noS _) o2 hf2
        have e1 : needsF ⟨#[40]⟩ s.take = s.take.fail 2 := by unfold needsF; rw [hp]; rfl
        have e2 := func_eq h hM noS _ o1
        have e3 : (funcF M noS s.take).2 = s.take.fail 2 := by
          unfold funcF
          rw [e1]
          simp only
          have a1 := stay (list_adv name_adv ⟨#[41]⟩ _) o2 hf2
          have a2 := stay (block_adv hM _) (s := (listF ⟨#[41]⟩ nameF (s.take.fail 2)).2) (by rw [a1]; exact o2) (by rw [a1]; exact hf2)
          rw [a2, a1]
        refine ⟨?_, fun hf => ?_⟩
        · simp only
          rw [e2.1, e3, n2]
        · simp only at hf
          rw [n2] at hf
          exact absurd hf hf2
  · exact Eqv.rfl' _
end
end Go.Proofs.YtinoaajohkafmaaGreat.Rp

/-
  The reference's parser: members and calls.
-/
namespace Go.Proofs.YtinoaajohkafmaaGreat.Rp
open Go Go.RowKit Go.Proofs.YtinoaajohkafmaaGreat.Uni Go.Proofs.YtinoaajohkafmaaGreat.Pa
open Go.Proofs.YtinoaajohkafmaaGreat.Lx
set_option linter.unusedVariables false
set_option linter.unusedSimpArgs false
attribute [local go_sem ↓] ldK stK alK bdK bsK ldN stN alN bdN bsN
attribute [local irreducible] kcs ncs ncells
attribute [local go_sem] run_alK run_bdK0 run_bdKs run_bdKn run_bdKe run_bsK run_fdK0 run_fdK1 run_fdK2 run_fdK3 run_fdN4 run_alN run_stNg run_ldNg run_bdN0 run_bdN04 run_bdN02 run_bdN01 run_bdN024 run_bdN03 run_bdN0234 run_bsN1 run_bsN2 run_bsN3
section
variable {g d : Nat} {s : PS} {S0 : Nat → Prop} {w0 W : World} {bs : List (Nat × Nd)} {vs : List (Tree × Nd)}
theorem Env.only (E : Env g d s S0 w0 W bs vs) {T : Tree} {N : Nd} (h : (T, N) ∈ vs) : Env g d s S0 w0 W bs [(T, N)] :=
  ⟨E.at_, E.gb, E.gl, E.s0, E.bl, E.nd, fun v hv => by rw [List.mem_singleton.1 hv]; exact E.rp _ h⟩
theorem Env.drop {x : Nat × Nd} (E : Env g d s S0 w0 W (x :: bs) vs) : Env g d s S0 w0 W bs vs :=
  ⟨E.at_, E.gb, E.gl, E.s0, fun y hy => E.bl y (List.mem_cons_of_mem _ hy), by have := E.nd; rw [List.map_cons, List.nodup_cons] at this; exact this.2, fun v hv => Rep.keep (fun b hb hS => ⟨⟨hS.1, fun hm => hS.2 (by rw [List.map_cons]; exact List.mem_cons_of_mem _ hm)⟩, rfl⟩) _ _ (E.rp v hv)⟩
theorem src_facts (E : Env g d s S0 w0 W bs vs) {ts : List Tree} {xs : List Nd} {v : Value} (G : GrowX (Own S0 w0.heap.size (bs.map Prod.fst)) w0.heap.size W ts xs v) {d' : Nat} {R : List Tree × PS} {e : Ending} {w2 : World} (hp : PostL g d' W R e w2) (hn : ts.length ≤ 200000) :
    ∃ (S2 : Sl) (a : Option Addr) (n c : Nat) (w6 : World) (xs' : List Nd), e = .returned (.slice S2.a S2.n S2.c) ∧ Env g d' R.2 S0 w0 w2 bs vs ∧ (Builtin.append_ #[23, 23] 23 #[v, .slice S2.a S2.n S2.c]).run Tryz.prog w2 = .ok (.slice a n c) w6 ∧ Env g d' R.2 S0 w0 w6 bs [] ∧ GrowX (Own S0 w0.heap.size (bs.map Prod.fst)) w0.heap.size w6 (ts ++ R.1) xs' (.slice a n c) := by
  have hlt : ∀ b, v.ownBlock = some b → b < W.heap.size := fun b hb => (G.own.lt b hb).2
  obtain ⟨v2, xs2, he, hgr, hl, ha, hg⟩ := hp
  have E2 := E.frame ha hg
  have G2 := growx_gb G E hg
  obtain ⟨S2, hv2, hrow, hrp⟩ := hgr.row
  subst hv2
  obtain ⟨a, n, c, w6, h1, h2, h3⟩ := grow_src G2 hrow.1 (Reps.keep (fun b hb hS => ⟨⟨E.lift hS, fun e => by have := hlt b e.symm; have hS' : W.heap.size ≤ b := hS; omega⟩, rfl⟩) _ _ hrp) (fun b hb => E2.lift hb) E2.size hn (by omega)
  exact ⟨S2, a, n, c, w6, _, he, E2, h1, E2.grownV (by decide) G2.own G2.ob h3, h2⟩
theorem src_facts2 (E : Env g d s S0 w0 W bs vs) {F : Tree} {M : Nd} (hF : (F, M) ∈ vs) {d' : Nat} {R : List Tree × PS} {e : Ending} {w2 : World} (hp : PostL g d' W R e w2) :
    ∃ (S2 : Sl) (a : Option Addr) (n c : Nat) (w6 : World) (xs' : List Nd), e = .returned (.slice S2.a S2.n S2.c) ∧ Env g d' R.2 S0 w0 w2 bs vs ∧ (Builtin.append_ #[23, 23] 23 #[.slice (some ⟨w2.heap.size, 0, none⟩) 1 1, .slice S2.a S2.n S2.c]).run Tryz.prog (w2.alloc (.cells (ncells [M]).toArray 25)) = .ok (.slice a n c) w6 ∧ Env g d' R.2 S0 w0 w6 bs [] ∧ GrowX (Own S0 w0.heap.size (bs.map Prod.fst)) w0.heap.size w6 ([F] ++ R.1) xs' (.slice a n c) := by
  obtain ⟨v2, xs2, he, hgr, hl, ha, hg⟩ := hp
  have E2 := E.frame ha hg
  have G2 := GrowX.new (m := 1) (ts := [F]) (xs := [M]) (by unfold Reps; exact ⟨E2.rp _ hF, by unfold Reps; trivial⟩) E2.own_new E2.size rfl (by omega)
  have E3 := E2.alloc (.cells (ncells [M]).toArray 25)
  obtain ⟨S2, hv2, hrow, hrp⟩ := hgr.row
  subst hv2
  obtain ⟨a, n, c, w6, h1, h2, h3⟩ := grow_src G2 (hrow.1.alloc _) (Reps.keep (w := w2) (fun b hb hS => ⟨⟨E.lift hS, fun e => by simp [Value.ownBlock] at e; omega⟩, heap_alloc_old _ _ hb⟩) _ _ hrp) (fun b hb => E3.lift hb) E3.size (by simp) (by omega)
  exact ⟨S2, a, n, c, w6, _, he, E2, h1, E3.grownV (by decide) G2.own G2.ob h3, h2⟩
end
theorem sees_bad {s : PS} (h : OkS s) (hf : s.fault ≠ 0) (x : ByteArray) : seesF x s = false := by
  have hn : s.next = stopK := by unfold PS.next; rw [h.st hf]; rfl
  unfold seesF
  rw [hn]
  rfl
theorem rm_dot {L : Low} {c : Bool} {f : Nat} {n : Tree} {s : PS} (h : seesF ⟨#[46]⟩ s = true) : rmembF L c (f + 1) n s = rmembF L c f (.mk 15 0 (memF s.take).1 [] [n]) (memF s.take).2 := by
  conv => lhs; unfold rmembF
  rw [h]; rfl
theorem rm_idx {L : Low} {c : Bool} {f : Nat} {n : Tree} {s : PS} (h : seesF ⟨#[46]⟩ s = false) (h2 : seesF ⟨#[91]⟩ s = true) : rmembF L c (f + 1) n s = rmembF L c f (node 16 [n, (L.ex s.take).1]) (needsF ⟨#[93]⟩ (L.ex s.take).2) := by
  conv => lhs; unfold rmembF
  rw [h, h2]; rfl
theorem rm_call {L : Low} {f : Nat} {n : Tree} {s : PS} (h : seesF ⟨#[46]⟩ s = false) (h2 : seesF ⟨#[91]⟩ s = false) (h3 : seesF ⟨#[40]⟩ s = true) : rmembF L true (f + 1) n s = rmembF L true f (node 17 (n :: (rargsF L s).1)) (rargsF L s).2 := by
  conv => lhs; unfold rmembF
  rw [h, h2, h3]; rfl
theorem rm_end {L : Low} {c : Bool} {f : Nat} {n : Tree} {s : PS} (h : seesF ⟨#[46]⟩ s = false) (h2 : seesF ⟨#[91]⟩ s = false) (h3 : (c && seesF ⟨#[40]⟩ s) = false) : rmembF L c f n s = (n, s) := by
  cases f with
  | zero => rfl
  | succ f => unfold rmembF; rw [h, h2, h3]; rfl
theorem args_adv {L : Low} (h : LowA L) {s : PS} (hk : seesF ⟨#[40]⟩ s = true) : Adv s.take (rargsF L s).2 := by
  unfold rargsF
  have e : needsF ⟨#[40]⟩ s = s.take := by unfold needsF; rw [if_pos hk]
  rw [e]
  exact (rlist_adv h.ex _ _).trans (needs_adv _ _)
structure MI (L : Low) (c : Bool) (g d : Nat) (S : Nat → Prop) (w wr : World) (R : Tree × PS) (T : Tree) (N : Nd) (s : PS) (f : Nat) : Prop where
  env : Env g d s S w wr [(w.heap.size + 1, zeroN), (w.heap.size, N)] [(T, N)]
  fu : s.left.length ≤ f
  eq : R = rmembF L c f T s
set_option maxRecDepth 100000 in
set_option maxHeartbeats 4000000 in
theorem members_call {d : Nat} {L : Low} (hL : LowC d L) {g : Nat} {s : PS} {w : World} (h : At g d s w) {S : Nat → Prop} (hS : ∀ b, S b → b ≠ g) {F : Tree} {M : Nd} (hF : Rep S w F M) :
    Calls Tryz.prog 131 #[.pointer (some ⟨g, 0, none⟩), .agg (ncs M), .bool true] w (PostS S g d w (rmembF L true s.left.length F s)) := by
  have E0 := (((Env.startS h hS).arg hF).new M).newAt zeroN (b := w.heap.size + 1) (by simp)
  obtain ⟨R, hR⟩ : ∃ R, R = rmembF L true s.left.length F s := ⟨_, rfl⟩
  rw [← hR]
  have hst : MI L true g d S w ((w.alloc (.cells (ncs M) 25)).alloc (.cells (ncs zeroN) 25)) R F M s s.left.length := ⟨E0, Nat.le_refl _, hR⟩
  have HST := Lib.hid hst
  clear E0 h hS hF hR hst
  go_enter Tryz.func131, Tryz.ntmps131
  go_wp2
  go_loopw [] (fun wr => ∃ T N s f, MI L true g d S w wr R T N s f) (fun wr => measS g wr)
  case atStart => exact ⟨_, _, _, _, HST.out⟩
  case round =>
    obtain ⟨T, N, s', f, hI⟩ := hrel
    have hmeas := hI.env.at_.meas
    have HI := Lib.hid hI
    have hfu := hI.fu
    by_cases hf : s'.fault = 0
    · have x3 := hI.env.e30 hf
      rw [if_pos hf] at hmeas
      have hpos := hI.env.at_.ok.pos
      have HM := Lib.hid hmeas
      have HFF := Lib.hid hf
      clear hmeas
      cases k1 : seesF ⟨#[46]⟩ s' with
      | true =>
        clear hf
        have hadv0 := ad_take (mem_adv s'.take) hI.env.at_.ok (sees_kind k1)
        obtain ⟨f', rfl⟩ : ∃ f', f = f' + 1 := ⟨f - 1, by omega⟩
        have he := hI.eq
        rw [rm_dot k1] at he
        obtain ⟨X, hXe⟩ : ∃ X, memF s'.take = X := ⟨_, rfl⟩
        rw [hXe] at he hadv0
        have c0 := take_t hI.env.at_ k1
        have HE := Lib.hid he
        have HV := Lib.hid hadv0
        have HXE := Lib.hid hXe
        have HE0 := Lib.hid hI.env
        have HFU := Lib.hid hfu
        clear hI k1 he hadv0 hXe hfu hpos
        go_wp2_with ((go_at_call 79; (with_reducible refine c0.mono ?_); intro e w1 hp; obtain ⟨rfl, E1⟩ := HE0.out.call hp; have E1a := (E1.kids1 List.mem_cons_self 15 0 X.1).drew1; have E1 := E1.drew1; have l1 := E1.ld 1 rfl; have c1 := word_any E1.at_; have c1a := word_any E1a.at_; have HE1a := Lib.hid E1a; clear E1a; have HE1 := Lib.hid E1; clear hp E1))
        go_region_with (go_at_call 136; first | ((with_reducible refine c1a.mono ?_); intro e w2 hp; rw [HXE.out] at hp; obtain ⟨rfl, E2⟩ := HE1a.out.call hp; have s2 := E2.sto 1 rfl; have HF := Lib.hid ((E2.store 1 rfl ⟨15, 0, X.1, nilSl, newSl w1.heap.size 1⟩).only List.mem_cons_self); clear hp E2) | ((with_reducible refine c1.mono ?_); intro e w2 hp; rw [HXE.out] at hp; obtain ⟨rfl, E2⟩ := HE1.out.call hp; have l2 := E2.ld 1 rfl; have E3 := E2.kids1 List.mem_cons_self 15 0 X.1; have s2 := E3.sto 1 rfl; have HF := Lib.hid ((E3.store 1 rfl ⟨15, 0, X.1, nilSl, newSl w2.heap.size 1⟩).only List.mem_cons_self); clear hp E2 E3))
        all_goals (
          go_wp2
          go_roundw
          case rel => exact ⟨_, _, _, f', HF.out, by have := HV.out; have := HFU.out; omega, HE.out⟩
          case measure => rw [HF.out.at_.meas, HM.out]; have := HV.out; split <;> omega)
      | false =>
        cases k2 : seesF ⟨#[91]⟩ s' with
        | true =>
          clear hf
          have hadv0 := ad_take ((hL.ad.ex s'.take).trans (needs_adv ⟨#[93]⟩ _)) hI.env.at_.ok (sees_kind k2)
          obtain ⟨f', rfl⟩ : ∃ f', f = f' + 1 := ⟨f - 1, by omega⟩
          have he := hI.eq
          rw [rm_idx k1 k2] at he
          obtain ⟨X, hXe⟩ : ∃ X, L.ex s'.take = X := ⟨_, rfl⟩
          rw [hXe] at he hadv0
          have c0 := take_f hI.env.at_ k1
          have HK2 := Lib.hid k2
          have HE := Lib.hid he
          have HV := Lib.hid hadv0
          have HXE := Lib.hid hXe
          have HE0 := Lib.hid hI.env
          have HFU := Lib.hid hfu
          clear hI k1 k2 he hadv0 hXe hfu hpos
          go_wp2_with (first | (go_at_call 79; (with_reducible refine c0.mono ?_); intro e w1 hp; obtain ⟨rfl, E1⟩ := HE0.out.call hp; have c1 := take_t E1.at_ HK2.out; have HE1 := Lib.hid E1; clear hp E1) | (go_at_call 79; (with_reducible refine c1.mono ?_); intro e w3 hp; obtain ⟨rfl, E3⟩ := HE1.out.call hp; have c3 := hL.ex E3.at_; have HE3 := Lib.hid E3; clear hp E3) | (go_at_call 81; (with_reducible refine c3.mono ?_); intro e w4 hp; rw [HXE.out] at hp; obtain ⟨N4, rfl, E4⟩ := HE3.out.callN hp; have E4 := E4.new N4; have c4 := want_any E4.at_ ⟨#[93]⟩; have HE4 := Lib.hid E4; clear hp E4) | (go_at_call 82; (with_reducible refine c4.mono ?_); intro e w5 hp; obtain ⟨rfl, E5⟩ := HE4.out.call hp; have l5 := E5.ld 2 rfl; have l5a := E5.ld 0 rfl; have c5 := two_any (E5.rp _ (List.mem_cons_of_mem _ List.mem_cons_self)) (E5.rp _ List.mem_cons_self) 16 ⟨#[]⟩; have HE5 := Lib.hid E5; clear hp E5) | (go_at_call 105; (with_reducible refine c5.mono ?_); intro e w6 hp; obtain ⟨N6, rfl, E6⟩ := HE5.out.callO hp (fun b h => h); have s6 := E6.sto 2 rfl; have HF := Lib.hid ((E6.store 2 rfl N6).only List.mem_cons_self).drop; clear hp E6))
          go_roundw
          case rel => exact ⟨_, _, _, f', HF.out, by have := HV.out; have := HFU.out; omega, HE.out⟩
          case measure => rw [HF.out.at_.meas, HM.out]; have := HV.out; split <;> omega
        | false =>
          cases k3 : seesF ⟨#[40]⟩ s' with
          | true =>
            clear hf
            have hadv0 := ad_take (args_adv hL.ad k3) hI.env.at_.ok (sees_kind k3)
            obtain ⟨f', rfl⟩ : ∃ f', f = f' + 1 := ⟨f - 1, by omega⟩
            have he := hI.eq
            rw [rm_call k1 k2 k3] at he
            obtain ⟨X, hXe⟩ : ∃ X, rargsF L s' = X := ⟨_, rfl⟩
            rw [hXe] at he hadv0
            have c0 := take_f hI.env.at_ k1
            have HK2 := Lib.hid k2
            have HK3 := Lib.hid k3
            have HE := Lib.hid he
            have HV := Lib.hid hadv0
            have HXE := Lib.hid hXe
            have HE0 := Lib.hid hI.env
            have HFU := Lib.hid hfu
            clear hI k1 k2 k3 he hadv0 hXe hfu hpos
            go_wp2_with (first | (go_at_call 79; (with_reducible refine c0.mono ?_); intro e w1 hp; obtain ⟨rfl, E1⟩ := HE0.out.call hp; have c1 := take_f E1.at_ HK2.out; have HE1 := Lib.hid E1; clear hp E1) | (go_at_call 79; (with_reducible refine c1.mono ?_); intro e w2 hp; obtain ⟨rfl, E2⟩ := HE1.out.call hp; have c2 := is_any E2.at_ HFF.out ⟨#[40]⟩; rw [HK3.out] at c2; have HE2 := Lib.hid E2; clear hp E2) | (go_at_call 37; (with_reducible refine c2.mono ?_); intro e w3 hp; obtain ⟨rfl, E3⟩ := HE2.out.callR hp; have HG3 := Lib.hid (growx_drew (GrowX.new (m := 1) (ts := [T]) (xs := [N]) (by unfold Reps; exact ⟨E3.rp _ List.mem_cons_self, by unfold Reps; trivial⟩) E3.own_new E3.size rfl (by omega))); have E3a := (E3.kids1 List.mem_cons_self 17 0 noS).drew1; have E3 := E3.drew1; have l3 := E3.ld 1 rfl; have c3 := args_any hL E3.at_; have c3a := args_any hL E3a.at_; have HE3a := Lib.hid E3a; clear E3a; have HE3 := Lib.hid E3; clear hp E3))
            go_region_law (first | (go_simp; go_at_call 133; first | ((with_reducible refine c3a.mono ?_); intro e w4 hp; rw [HXE.out] at hp; obtain ⟨S2, a6, n6, cc6, w6, xs6, rfl, E4, hrun, E6, G6⟩ := src_facts HE3a.out HG3.out hp (by simp); have E7 := E6.ofGrow G6 17 0 noS; have s7 := E7.sto 1 rfl; have HF := Lib.hid ((E7.store 1 rfl (kidN 17 ⟨a6, n6, cc6⟩)).only List.mem_cons_self); clear hp E4 E6 G6 E7; dsimp only) | ((with_reducible refine c3.mono ?_); intro e w4 hp; rw [HXE.out] at hp; obtain ⟨S2, a6, n6, cc6, w6, xs6, rfl, E4, hrun, E6, G6⟩ := src_facts2 HE3.out List.mem_cons_self hp; have E7 := E6.ofGrow G6 17 0 noS; have l4 := E4.ld 1 rfl; have s7 := E7.sto 1 rfl; have HF := Lib.hid ((E7.store 1 rfl (kidN 17 ⟨a6, n6, cc6⟩)).only List.mem_cons_self); clear hp E4 E6 G6 E7; dsimp only)) | (refine step_app rfl (.tmp 39) (.tmp 41) 23 rfl rfl _ _ _ (by simp [Act.eval, Act.put]) (by simp [Act.eval, Act.put]) hrun ?_))
            all_goals (
              go_wp2
              go_roundw
              case rel => exact ⟨_, _, _, f', HF.out, by have := HV.out; have := HFU.out; omega, HE.out⟩
              case measure => rw [HF.out.at_.meas, HM.out]; have := HV.out; split <;> omega)
          | false =>
            have he := hI.eq
            rw [rm_end k1 k2 (by rw [k3]; rfl)] at he
            have c0 := take_f hI.env.at_ k1
            have HK2 := Lib.hid k2
            have HK3 := Lib.hid k3
            have HE := Lib.hid he
            have HE0 := Lib.hid hI.env
            clear hI k1 k2 k3 he hf hpos
            go_wp2_with (first | (go_at_call 79; (with_reducible refine c0.mono ?_); intro e w1 hp; obtain ⟨rfl, E1⟩ := HE0.out.call hp; have c1 := take_f E1.at_ HK2.out; have HE1 := Lib.hid E1; clear hp E1) | (go_at_call 79; (with_reducible refine c1.mono ?_); intro e w2 hp; obtain ⟨rfl, E2⟩ := HE1.out.call hp; have c2 := is_any E2.at_ HFF.out ⟨#[40]⟩; rw [HK3.out] at c2; have HE2 := Lib.hid E2; clear hp E2) | (go_at_call 37; (with_reducible refine c2.mono ?_); intro e w3 hp; obtain ⟨rfl, E3⟩ := HE2.out.callR hp; have l3 := E3.ld 1 rfl; have s3 := E3.sto 0 rfl; have HE3 := Lib.hid E3; clear hp E3))
            rw [HE.out]
            exact ((HE3.out.store 0 rfl _).fin List.mem_cons_self List.mem_cons_self rfl rfl)
    · have hq : (s'.fault == 0) = false := by simpa using hf
      have x3 := hI.env.e3
      have he := hI.eq
      have k := sees_bad hI.env.at_.ok hf
      rw [rm_end (k _) (k _) (by rw [k]; rfl)] at he
      have l1 := hI.env.ld 1 rfl
      have s1 := hI.env.sto 0 rfl
      have HE := Lib.hid he
      have HE0 := Lib.hid hI.env
      clear hI k he hf hmeas
      go_wp2
      rw [HE.out]
      exact ((HE0.out.store 0 rfl _).fin List.mem_cons_self List.mem_cons_self rfl rfl)
set_option maxRecDepth 100000 in
set_option maxHeartbeats 4000000 in
theorem members_plain {d : Nat} {L : Low} (hL : LowC d L) {g : Nat} {s : PS} {w : World} (h : At g d s w) {S : Nat → Prop} (hS : ∀ b, S b → b ≠ g) {F : Tree} {M : Nd} (hF : Rep S w F M) :
    Calls Tryz.prog 131 #[.pointer (some ⟨g, 0, none⟩), .agg (ncs M), .bool false] w (PostS S g d w (rmembF L false s.left.length F s)) := by
  have E0 := (((Env.startS h hS).arg hF).new M).newAt zeroN (b := w.heap.size + 1) (by simp)
  obtain ⟨R, hR⟩ : ∃ R, R = rmembF L false s.left.length F s := ⟨_, rfl⟩
  rw [← hR]
  have hst : MI L false g d S w ((w.alloc (.cells (ncs M) 25)).alloc (.cells (ncs zeroN) 25)) R F M s s.left.length := ⟨E0, Nat.le_refl _, hR⟩
  have HST := Lib.hid hst
  clear E0 h hS hF hR hst
  go_enter Tryz.func131, Tryz.ntmps131
  go_wp2
  go_loopw [] (fun wr => ∃ T N s f, MI L false g d S w wr R T N s f) (fun wr => measS g wr)
  case atStart => exact ⟨_, _, _, _, HST.out⟩
  case round =>
    obtain ⟨T, N, s', f, hI⟩ := hrel
    have hmeas := hI.env.at_.meas
    have HI := Lib.hid hI
    have hfu := hI.fu
    by_cases hf : s'.fault = 0
    · have x3 := hI.env.e30 hf
      rw [if_pos hf] at hmeas
      have hpos := hI.env.at_.ok.pos
      have HM := Lib.hid hmeas
      have HFF := Lib.hid hf
      clear hmeas
      cases k1 : seesF ⟨#[46]⟩ s' with
      | true =>
        clear hf
        have hadv0 := ad_take (mem_adv s'.take) hI.env.at_.ok (sees_kind k1)
        obtain ⟨f', rfl⟩ : ∃ f', f = f' + 1 := ⟨f - 1, by omega⟩
        have he := hI.eq
        rw [rm_dot k1] at he
        obtain ⟨X, hXe⟩ : ∃ X, memF s'.take = X := ⟨_, rfl⟩
        rw [hXe] at he hadv0
        have c0 := take_t hI.env.at_ k1
        have HE := Lib.hid he
        have HV := Lib.hid hadv0
        have HXE := Lib.hid hXe
        have HE0 := Lib.hid hI.env
        have HFU := Lib.hid hfu
        clear hI k1 he hadv0 hXe hfu hpos
        go_wp2_with ((go_at_call 79; (with_reducible refine c0.mono ?_); intro e w1 hp; obtain ⟨rfl, E1⟩ := HE0.out.call hp; have E1a := (E1.kids1 List.mem_cons_self 15 0 X.1).drew1; have E1 := E1.drew1; have l1 := E1.ld 1 rfl; have c1 := word_any E1.at_; have c1a := word_any E1a.at_; have HE1a := Lib.hid E1a; clear E1a; have HE1 := Lib.hid E1; clear hp E1))
        go_region_with (go_at_call 136; first | ((with_reducible refine c1a.mono ?_); intro e w2 hp; rw [HXE.out] at hp; obtain ⟨rfl, E2⟩ := HE1a.out.call hp; have s2 := E2.sto 1 rfl; have HF := Lib.hid ((E2.store 1 rfl ⟨15, 0, X.1, nilSl, newSl w1.heap.size 1⟩).only List.mem_cons_self); clear hp E2) | ((with_reducible refine c1.mono ?_); intro e w2 hp; rw [HXE.out] at hp; obtain ⟨rfl, E2⟩ := HE1.out.call hp; have l2 := E2.ld 1 rfl; have E3 := E2.kids1 List.mem_cons_self 15 0 X.1; have s2 := E3.sto 1 rfl; have HF := Lib.hid ((E3.store 1 rfl ⟨15, 0, X.1, nilSl, newSl w2.heap.size 1⟩).only List.mem_cons_self); clear hp E2 E3))
        all_goals (
          go_wp2
          go_roundw
          case rel => exact ⟨_, _, _, f', HF.out, by have := HV.out; have := HFU.out; omega, HE.out⟩
          case measure => rw [HF.out.at_.meas, HM.out]; have := HV.out; split <;> omega)
      | false =>
        cases k2 : seesF ⟨#[91]⟩ s' with
        | true =>
          clear hf
          have hadv0 := ad_take ((hL.ad.ex s'.take).trans (needs_adv ⟨#[93]⟩ _)) hI.env.at_.ok (sees_kind k2)
          obtain ⟨f', rfl⟩ : ∃ f', f = f' + 1 := ⟨f - 1, by omega⟩
          have he := hI.eq
          rw [rm_idx k1 k2] at he
          obtain ⟨X, hXe⟩ : ∃ X, L.ex s'.take = X := ⟨_, rfl⟩
          rw [hXe] at he hadv0
          have c0 := take_f hI.env.at_ k1
          have HK2 := Lib.hid k2
          have HE := Lib.hid he
          have HV := Lib.hid hadv0
          have HXE := Lib.hid hXe
          have HE0 := Lib.hid hI.env
          have HFU := Lib.hid hfu
          clear hI k1 k2 he hadv0 hXe hfu hpos
          go_wp2_with (first | (go_at_call 79; (with_reducible refine c0.mono ?_); intro e w1 hp; obtain ⟨rfl, E1⟩ := HE0.out.call hp; have c1 := take_t E1.at_ HK2.out; have HE1 := Lib.hid E1; clear hp E1) | (go_at_call 79; (with_reducible refine c1.mono ?_); intro e w3 hp; obtain ⟨rfl, E3⟩ := HE1.out.call hp; have c3 := hL.ex E3.at_; have HE3 := Lib.hid E3; clear hp E3) | (go_at_call 81; (with_reducible refine c3.mono ?_); intro e w4 hp; rw [HXE.out] at hp; obtain ⟨N4, rfl, E4⟩ := HE3.out.callN hp; have E4 := E4.new N4; have c4 := want_any E4.at_ ⟨#[93]⟩; have HE4 := Lib.hid E4; clear hp E4) | (go_at_call 82; (with_reducible refine c4.mono ?_); intro e w5 hp; obtain ⟨rfl, E5⟩ := HE4.out.call hp; have l5 := E5.ld 2 rfl; have l5a := E5.ld 0 rfl; have c5 := two_any (E5.rp _ (List.mem_cons_of_mem _ List.mem_cons_self)) (E5.rp _ List.mem_cons_self) 16 ⟨#[]⟩; have HE5 := Lib.hid E5; clear hp E5) | (go_at_call 105; (with_reducible refine c5.mono ?_); intro e w6 hp; obtain ⟨N6, rfl, E6⟩ := HE5.out.callO hp (fun b h => h); have s6 := E6.sto 2 rfl; have HF := Lib.hid ((E6.store 2 rfl N6).only List.mem_cons_self).drop; clear hp E6))
          go_roundw
          case rel => exact ⟨_, _, _, f', HF.out, by have := HV.out; have := HFU.out; omega, HE.out⟩
          case measure => rw [HF.out.at_.meas, HM.out]; have := HV.out; split <;> omega
        | false =>
          have he := hI.eq
          rw [rm_end k1 k2 rfl] at he
          have c0 := take_f hI.env.at_ k1
          have HK2 := Lib.hid k2
          have HE := Lib.hid he
          have HE0 := Lib.hid hI.env
          clear hI k1 k2 he hf hpos
          go_wp2_with (first | (go_at_call 79; (with_reducible refine c0.mono ?_); intro e w1 hp; obtain ⟨rfl, E1⟩ := HE0.out.call hp; have c1 := take_f E1.at_ HK2.out; have HE1 := Lib.hid E1; clear hp E1) | (go_at_call 79; (with_reducible refine c1.mono ?_); intro e w2 hp; obtain ⟨rfl, E2⟩ := HE1.out.call hp; have l2 := E2.ld 1 rfl; have s2 := E2.sto 0 rfl; have HE2 := Lib.hid E2; clear hp E2))
          rw [HE.out]
          exact ((HE2.out.store 0 rfl _).fin List.mem_cons_self List.mem_cons_self rfl rfl)
    · have hq : (s'.fault == 0) = false := by simpa using hf
      have x3 := hI.env.e3
      have he := hI.eq
      have k := sees_bad hI.env.at_.ok hf
      rw [rm_end (k _) (k _) (by rw [k]; rfl)] at he
      have l1 := hI.env.ld 1 rfl
      have s1 := hI.env.sto 0 rfl
      have HE := Lib.hid he
      have HE0 := Lib.hid hI.env
      clear hI k he hf hmeas
      go_wp2
      rw [HE.out]
      exact ((HE0.out.store 0 rfl _).fin List.mem_cons_self List.mem_cons_self rfl rfl)
end Go.Proofs.YtinoaajohkafmaaGreat.Rp
