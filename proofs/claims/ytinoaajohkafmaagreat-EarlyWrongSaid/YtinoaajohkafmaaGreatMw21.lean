/-
  Texts of this seat in build order: RpEq2, RpTop, RpFun.
-/
import Derived.Test.YtinoaajohkafmaaGreatMw20
import Derived.Test.YtinoaajohkafmaaGreatMw19
/-
  Plain mathematics: the reference's parser gives what the program's gives, second part.
-/
namespace Go.Proofs.YtinoaajohkafmaaGreat.Rp
open Go.Proofs.YtinoaajohkafmaaGreat.Pa
open Go.Proofs.YtinoaajohkafmaaGreat.Lx
set_option linter.unusedVariables false
set_option linter.unusedSimpArgs false
section
variable {L M : Low}
theorem sees_len {x : ByteArray} {s : PS} (hs : OkS s) (h : seesF x s = true) : s.take.left.length + 1 = s.left.length := (hs.take (sees_kind h)).2
theorem mem_eq0 (h : LowEq L M) (hM : LowA M) : ∀ f n n' s, OkS s → ((membersF M f n' s).2.fault = 0 → n = n') → Eqv (rmembF L false f n s) (membersF M f n' s)
  | 0, n, n', s, hs, hn => ⟨rfl, hn⟩
  | f + 1, n, n', s, hs, hn => by
    unfold rmembF membersF
    unfold membersF at hn
    by_cases hh : seesF ⟨#[46]⟩ s = true
    · rw [if_pos hh] at hn
      rw [if_pos hh, if_pos hh]
      have o1 := ((take_adv (sees_kind hh)).trans (mem_adv _) hs).1
      refine mem_eq0 h hM f _ _ _ o1 (fun hf => ?_)
      rw [hn hf]
    · rw [if_neg hh] at hn
      rw [if_neg hh, if_neg hh]
      by_cases h2 : seesF ⟨#[91]⟩ s = true
      · rw [if_pos h2] at hn
        rw [if_pos h2, if_pos h2]
        have o1 := (take_adv (sees_kind h2) hs).1
        have e1 := h.ex _ o1
        have o2 := ((hM.ex _).nd (x := ⟨#[93]⟩) o1).1
        simp only at hn ⊢
        rw [e1.1]
        refine mem_eq0 h hM f _ _ _ o2 (fun hf => ?_)
        have f2 := back (membs_adv hM _ _ _) o2 hf
        rw [hn hf, e1.2 (back (needs_adv _ _) ((hM.ex _) o1).1 f2)]
      · rw [if_neg h2] at hn
        rw [if_neg h2, if_neg h2, if_neg (by simp)]
        exact ⟨rfl, hn⟩
def tailF (M : Low) (k g : Nat) (n : Tree) (s : PS) : Tree × PS := callLoop M g (membersF M k n s).1 (membersF M k n s).2
theorem tail_adv (hM : LowA M) (k g : Nat) (n : Tree) (s : PS) : Adv s (tailF M k g n s).2 := (membs_adv hM k n s).trans (calll_adv hM _ _ _)
theorem mem_eq1 (h : LowEq L M) (hM : LowA M) : ∀ f n n' s k g, OkS s → s.left.length ≤ f → s.left.length ≤ k → (membersF M k n' s).2.left.length ≤ g → ((tailF M k g n' s).2.fault = 0 → n = n') → Eqv (rmembF L true f n s) (tailF M k g n' s)
  | 0, n, n', s, k, g, hs, hf, _, _, _ => by have := hs.pos; omega
  | f + 1, n, n', s, 0, g, hs, _, hk, _, _ => by have := hs.pos; omega
  | f + 1, n, n', s, k + 1, g, hs, hf, hk, hg, hn => by
    unfold rmembF
    by_cases h1 : seesF ⟨#[46]⟩ s = true
    · rw [if_pos h1]
      have e : ∀ n', membersF M (k + 1) n' s = membersF M k (.mk 15 0 (memF s.take).1 [] [n']) (memF s.take).2 := fun n' => by rw [membersF, if_pos h1]
      have e2 : ∀ n', tailF M (k + 1) g n' s = tailF M k g (.mk 15 0 (memF s.take).1 [] [n']) (memF s.take).2 := fun n' => by unfold tailF; rw [e]
      have o1 := (take_adv (sees_kind h1) hs).1
      have l1 := sees_len hs h1
      have a2 := mem_adv s.take o1
      rw [e2] at hn ⊢
      rw [e] at hg
      exact mem_eq1 h hM f _ _ _ k g a2.1 (by have := a2.2.1; omega) (by have := a2.2.1; omega) hg (fun hf => by rw [hn hf])
    · rw [if_neg h1]
      by_cases h2 : seesF ⟨#[91]⟩ s = true
      · rw [if_pos h2]
        have e : ∀ n', membersF M (k + 1) n' s = membersF M k (node 16 [n', (M.ex s.take).1]) (needsF ⟨#[93]⟩ (M.ex s.take).2) := fun n' => by rw [membersF, if_neg h1, if_pos h2]
        have e2 : ∀ n', tailF M (k + 1) g n' s = tailF M k g (node 16 [n', (M.ex s.take).1]) (needsF ⟨#[93]⟩ (M.ex s.take).2) := fun n' => by unfold tailF; rw [e]
        have o1 := (take_adv (sees_kind h2) hs).1
        have l1 := sees_len hs h2
        have e1 := h.ex _ o1
        have a2 := (hM.ex s.take).nd (x := ⟨#[93]⟩) o1
        rw [e2] at hn ⊢
        rw [e] at hg
        simp only
        rw [e1.1]
        refine mem_eq1 h hM f _ _ _ k g a2.1 (by have := a2.2.1; omega) (by have := a2.2.1; omega) hg (fun hf => ?_)
        have f2 := back (tail_adv hM _ _ _ _) a2.1 hf
        rw [hn hf, e1.2 (back (needs_adv _ _) ((hM.ex _) o1).1 f2)]
      · rw [if_neg h2]
        have e : ∀ n', membersF M (k + 1) n' s = (n', s) := fun n' => by rw [membersF, if_neg h1, if_neg h2]
        have e2 : ∀ n', tailF M (k + 1) g n' s = callLoop M g n' s := fun n' => by unfold tailF; rw [e]
        rw [e2] at hn ⊢
        rw [e] at hg
        simp only at hg
        by_cases h3 : seesF ⟨#[40]⟩ s = true
        · rw [if_pos (by rw [h3]; rfl)]
          obtain ⟨g, rfl⟩ : ∃ q, g = q + 1 := ⟨g - 1, by have := hs.pos; omega⟩
          have l1 := sees_len hs h3
          have o1 := (take_adv (sees_kind h3) hs).1
          have en : needsF ⟨#[40]⟩ s = s.take := by unfold needsF; rw [if_pos h3]
          have ac : ∀ n, Adv s.take (calledF M 17 n s).2 := fun n => by
            unfold calledF
            rw [en]
            exact list_adv hM.ex _ _
          have e3 : ∀ n', callLoop M (g + 1) n' s = tailF M (calledF M 17 n' s).2.left.length g (calledF M 17 n' s).1 (calledF M 17 n' s).2 := fun n' => by
            rw [callLoop, if_pos h3]
            rfl
          have a2 := ac n' o1
          rw [e3] at hn ⊢
          have ea := args_eq h hM s hs
          have es : (rargsF L s).2 = (calledF M 17 n' s).2 := ea.1
          have am := (membs_adv hM (calledF M 17 n' s).2.left.length (calledF M 17 n' s).1 (calledF M 17 n' s).2 a2.1).2.1
          simp only
          rw [es]
          refine mem_eq1 h hM f _ _ _ _ g a2.1 (by have := a2.2.1; omega) (Nat.le_refl _) (by have := a2.2.1; omega) (fun hf => ?_)
          have f2 : (listF ⟨#[41]⟩ M.ex (needsF ⟨#[40]⟩ s)).2.fault = 0 := back (tail_adv hM _ _ _ _) a2.1 hf
          rw [hn hf, ea.2 f2]
          rfl
        · rw [if_neg (by simp [h3])]
          have e4 : ∀ g n', callLoop M g n' s = (n', s) := fun g n' => by
            cases g with
            | zero => rfl
            | succ g => rw [callLoop, if_neg h3]
          rw [e4] at hn ⊢
          exact ⟨rfl, hn⟩
theorem post_eq (h : LowEq L M) (hM : LowA M) (s : PS) (hs : OkS s) : Eqv (rpostF L s) (chainF M s) := by
  unfold rpostF chainF baseF
  by_cases h1 : seesF ⟨#[110, 101, 119]⟩ s = true
  · rw [if_pos h1, if_pos h1]
    have o1 := (take_adv (sees_kind h1) hs).1
    have e1 := prim_eq h hM _ o1
    have o2 := (prim_adv hM _ o1).1
    simp only
    rw [e1.1]
    have e2 := mem_eq0 h hM (primF M s.take).2.left.length (rprimF L s.take).1 (primF M s.take).1 _ o2 (fun hf => e1.2 (back (membs_adv hM _ _ _) o2 hf))
    have o3 := (membs_adv hM (primF M s.take).2.left.length (primF M s.take).1 _ o2).1
    have e2a := e2.1
    unfold membF
    rw [e2a]
    have ea := args_eq h hM _ o3
    have es : (rargsF L (membersF M (primF M s.take).2.left.length (primF M s.take).1 (primF M s.take).2).2).2 = (calledF M 18 (membersF M (primF M s.take).2.left.length (primF M s.take).1 (primF M s.take).2).1 (membersF M (primF M s.take).2.left.length (primF M s.take).1 (primF M s.take).2).2).2 := ea.1
    have o4 := (called_adv hM 18 (membersF M (primF M s.take).2.left.length (primF M s.take).1 (primF M s.take).2).1 _ o3).1
    rw [es]
    refine mem_eq1 h hM _ _ _ _ _ _ o4 (Nat.le_refl _) (Nat.le_refl _) (Nat.le_refl _) (fun hf => ?_)
    have f4 := back (tail_adv hM _ _ _ _) o4 hf
    have f3 := back (called_adv hM _ _ _) o3 f4
    have f4' : (listF ⟨#[41]⟩ M.ex (needsF ⟨#[40]⟩ (membersF M (primF M s.take).2.left.length (primF M s.take).1 (primF M s.take).2).2)).2.fault = 0 := f4
    rw [ea.2 f4', e2.2 f3]
    rfl
  · rw [if_neg h1, if_neg h1]
    have e1 := prim_eq h hM _ hs
    have o2 := (prim_adv hM _ hs).1
    simp only
    rw [e1.1]
    exact mem_eq1 h hM _ _ _ _ _ _ o2 (Nat.le_refl _) (Nat.le_refl _) (Nat.le_refl _) (fun hf => e1.2 (back (tail_adv hM _ _ _ _) o2 hf))
theorem un_eq (h : LowEq L M) (hM : LowA M) (s : PS) (hs : OkS s) : Eqv (runF L s) (unF M s) := by
  unfold runF unF
  by_cases h1 : seesOneF prefixT s = true
  · rw [if_pos h1, if_pos h1]
    have o1 := (take_adv (one_kind h1) hs).1
    have e1 := h.un _ o1
    simp only
    rw [e1.1]
    by_cases hf1 : (M.un s.take).2.fault = 0
    · rw [e1.2 hf1]; exact Eqv.rfl' _
    · have hfl : (M.un s.take).2.fail 2 = (M.un s.take).2 := by unfold PS.fail; rw [if_neg hf1]
      rw [hfl]
      refine ⟨by simp, fun hf => ?_⟩
      simp at hf
      exact absurd hf hf1
  · rw [if_neg h1, if_neg h1]
    exact post_eq h hM s hs
theorem let_eq (h : LowEq L M) (hM : LowA M) (s : PS) (hs : OkS s) : Eqv (letF L s) (letF M s) := by
  unfold letF
  simp only
  split
  · rename_i hh
    have o1 := (((name_adv s).tk hh) hs).1
    have e := h.ex _ o1
    refine ⟨e.1, fun hf => ?_⟩
    simp only at hf ⊢
    rw [e.2 hf]
  · exact Eqv.rfl' _
theorem const_eq (h : LowEq L M) (hM : LowA M) (s : PS) (hs : OkS s) : Eqv (constF L s) (constF M s) := by
  unfold constF
  have o1 := ((name_adv s).nd (x := ⟨#[61]⟩) hs).1
  have e := h.ex _ o1
  refine ⟨e.1, fun hf => ?_⟩
  simp only at hf ⊢
  rw [e.2 hf]
theorem simp_eq (h : LowEq L M) (hM : LowA M) (s : PS) (hs : OkS s) : Eqv (simpF L s) (simpF M s) := by
  unfold simpF
  split
  · exact Eqv.rfl' _
  split
  · exact let_eq h hM _ (take_adv (sees_kind (by assumption)) hs).1
  split
  · exact const_eq h hM _ (take_adv (sees_kind (by assumption)) hs).1
  split
  · rename_i hh
    split
    · exact Eqv.rfl' _
    · have e := h.ex _ (take_adv (sees_kind hh) hs).1
      refine ⟨e.1, fun hf => ?_⟩
      simp only at hf ⊢
      rw [e.2 hf]
  split
  · rename_i hh
    have e := h.ex _ (take_adv (sees_kind hh) hs).1
    refine ⟨e.1, fun hf => ?_⟩
    simp only at hf ⊢
    rw [e.2 hf]
  split
  · exact Eqv.rfl' _
  split
  · exact Eqv.rfl' _
  · have e := h.ex _ hs
    refine ⟨e.1, fun hf => ?_⟩
    simp only at hf ⊢
    rw [e.2 hf]
theorem choice_eq (h : LowEq L M) (hM : LowA M) (s : PS) (hs : OkS s) : Eqv (choiceF L s) (choiceF M s) := by
  unfold choiceF
  have e1 := paren_eq h hM s hs
  have o1 := (paren_adv hM s hs).1
  simp only
  rw [e1.1]
  have e2 := h.st _ o1
  have o2 := (hM.st _ o1).1
  rw [e2.1]
  split
  · rename_i hh
    have o3 := (take_adv (sees_kind hh) o2).1
    have e3 := h.st _ o3
    refine ⟨e3.1, fun hf => ?_⟩
    simp only at hf ⊢
    have f2 := back ((take_adv (sees_kind hh)).trans (hM.st _)) o2 hf
    rw [e3.2 hf, e2.2 f2, e1.2 (back (hM.st _) o1 f2)]
  · refine ⟨rfl, fun hf => ?_⟩
    simp only at hf ⊢
    rw [e2.2 hf, e1.2 (back (hM.st _) o1 hf)]
theorem hand_eq (h : LowEq L M) (hM : LowA M) (s : PS) (hs : OkS s) : Eqv (handF L s) (handF M s) := by
  unfold handF
  have o := (((needs_adv ⟨#[40]⟩ s).by name_adv).nd (x := ⟨#[41]⟩) hs).1
  have e := block_eq h hM _ o
  refine ⟨e.1, fun hf => ?_⟩
  simp only at hf ⊢
  rw [e.2 hf]
theorem try_eq (h : LowEq L M) (hM : LowA M) (s : PS) (hs : OkS s) : Eqv (tryF L s) (tryF M s) := by
  unfold tryF
  have e1 := block_eq h hM s hs
  have o1 := (block_adv hM s hs).1
  simp only
  rw [e1.1]
  by_cases hc : seesF ⟨#[99, 97, 116, 99, 104]⟩ (blockF M s).2 = true
  · rw [if_pos hc, if_pos hc]
    have f1 : (blockF M s).2.fault = 0 := o1.live (fun e => (sees_kind hc) (.inr e))
    rw [e1.2 f1]
    have o2 := (take_adv (sees_kind hc) o1).1
    have e2 := hand_eq h hM _ o2
    have o3 := (hand_adv hM _ o2).1
    rw [e2.1]
    by_cases hd : seesF ⟨#[102, 105, 110, 97, 108, 108, 121]⟩ (handF M (blockF M s).2.take).2 = true
    · rw [if_pos hd, if_pos hd]
      have f2 : (handF M (blockF M s).2.take).2.fault = 0 := o3.live (fun e => (sees_kind hd) (.inr e))
      rw [e2.2 f2]
      have e3 := block_eq h hM _ (take_adv (sees_kind hd) o3).1
      refine ⟨e3.1, fun hf => ?_⟩
      simp only at hf ⊢
      rw [e3.2 hf]
    · rw [if_neg hd, if_neg hd]
      refine ⟨rfl, fun hf => ?_⟩
      simp only at hf ⊢
      rw [e2.2 hf]
  · rw [if_neg hc, if_neg hc]
    by_cases hd : seesF ⟨#[102, 105, 110, 97, 108, 108, 121]⟩ (blockF M s).2 = true
    · rw [if_pos hd, if_pos hd]
      have f1 : (blockF M s).2.fault = 0 := o1.live (fun e => (sees_kind hd) (.inr e))
      rw [e1.2 f1]
      have e3 := block_eq h hM _ (take_adv (sees_kind hd) o1).1
      refine ⟨e3.1, fun hf => ?_⟩
      simp only at hf ⊢
      rw [e3.2 hf]
    · rw [if_neg hd, if_neg hd]
      refine ⟨rfl, fun hf => ?_⟩
      simp only at hf ⊢
      rw [e1.2 (back (fail_adv _ (by decide)) o1 hf)]
theorem st_eq (h : LowEq L M) (hM : LowA M) (s : PS) (hs : OkS s) : Eqv (rstF L s) (stF M s) := by
  unfold rstF stF
  split
  · exact block_eq h hM s hs
  split
  · rename_i hh
    have o1 := (((take_adv (sees_kind hh)).by name_adv) hs).1
    have e := func_eq h hM (nameF s.take).1 _ o1
    refine ⟨e.1, fun hf => ?_⟩
    simp only at hf ⊢
    rw [e.2 hf]
  split
  · exact choice_eq h hM _ (take_adv (sees_kind (by assumption)) hs).1
  split
  · rename_i hh
    have o1 := (take_adv (sees_kind hh) hs).1
    have e1 := paren_eq h hM _ o1
    have o2 := (paren_adv hM _ o1).1
    have e2 := h.st _ o2
    simp only
    rw [e1.1]
    refine ⟨e2.1, fun hf => ?_⟩
    simp only at hf ⊢
    rw [e2.2 hf, e1.2 (back (hM.st _) o2 hf)]
  split
  · exact try_eq h hM _ (take_adv (sees_kind (by assumption)) hs).1
  · have e := simp_eq h hM s hs
    have o := (simp_adv hM s hs).1
    simp only
    rw [e.1]
    exact ⟨rfl, fun hf => e.2 (back (needs_adv _ _) o hf)⟩
end
end Go.Proofs.YtinoaajohkafmaaGreat.Rp

/-
  The reference's parser: what it does one deeper, as it does it.
-/
namespace Go.Proofs.YtinoaajohkafmaaGreat.Rp
open Go Go.RowKit Go.Proofs.YtinoaajohkafmaaGreat.Uni Go.Proofs.YtinoaajohkafmaaGreat.Pa
open Go.Proofs.YtinoaajohkafmaaGreat.Lx
set_option linter.unusedVariables false
set_option linter.unusedSimpArgs false
attribute [local go_sem ↓] ldK stK alK bdK bsK ldN stN alN bdN bsN
attribute [local irreducible] kcs ncs ncells
attribute [local go_sem] run_alK run_bdK0 run_bdKs run_bdKn run_bdKe run_bsK run_fdK0 run_fdK1 run_fdK2 run_fdK3 run_fdN4 run_alN run_stNg run_ldNg run_bdN0 run_bdN04 run_bdN02 run_bdN01 run_bdN024 run_bdN03 run_bdN0234 run_bsN1 run_bsN2 run_bsN3
def liveF (f : PS → Tree × PS) (s : PS) : Tree × PS := if s.fault = 0 then f s else (zeroT, s)
def rlowG : Nat → Low
  | 0 => ⟨fun s => (zeroT, s.fail 4), fun s => (zeroT, s.fail 4), fun s => (zeroT, s.fail 4)⟩
  | r + 1 => ⟨liveF (rexF (rlowG r)), liveF (rstF (rlowG r)), liveF (runF (rlowG r))⟩
def rtreeG (l : List Tok) : Tree × Int × Int :=
  let x := stmtsF (rlowG 100) endF (l.length + 1) ⟨l, 0, 0⟩
  if x.2.fault = 0 then (node 44 x.1, 0, 0) else (zeroT, x.2.pos, x.2.fault)
theorem rlowG_succ (r : Nat) : rlowG (r + 1) = ⟨liveF (rexF (rlowG r)), liveF (rstF (rlowG r)), liveF (runF (rlowG r))⟩ := rfl
theorem rlowG_zero : rlowG 0 = ⟨fun s => (zeroT, s.fail 4), fun s => (zeroT, s.fail 4), fun s => (zeroT, s.fail 4)⟩ := rfl
theorem live_eq {f g : PS → Tree × PS} (h : ∀ s, OkS s → Eqv (f s) (g s)) (ha : ∀ s, Adv s (g s).2) : ∀ s, OkS s → Eqv (liveF f s) (g s) := fun s hs => by
  unfold liveF
  by_cases hf : s.fault = 0
  · rw [if_pos hf]; exact h s hs
  · rw [if_neg hf]
    have e := stay (ha s) hs hf
    exact ⟨e.symm, fun h0 => absurd (by rw [← e]; exact h0) hf⟩
theorem low_succ_eqG {L M : Low} (h : LowEq L M) (hM : LowA M) : LowEq ⟨liveF (rexF L), liveF (rstF L), liveF (runF L)⟩ ⟨exF M, stF M, unF M⟩ := by
  have a : ∀ s, OkS s → Eqv (liveF (rexF L) s) (exF M s) := live_eq (fun s hs => ex_eq h hM s hs) (ex_adv hM)
  have b : ∀ s, OkS s → Eqv (liveF (rstF L) s) (stF M s) := live_eq (fun s hs => st_eq h hM s hs) (st_adv hM)
  have c : ∀ s, OkS s → Eqv (liveF (runF L) s) (unF M s) := live_eq (fun s hs => un_eq h hM s hs) (un_adv hM)
  generalize liveF (rexF L) = f1 at *
  generalize liveF (rstF L) = f2 at *
  generalize liveF (runF L) = f3 at *
  generalize exF M = g1 at *
  generalize stF M = g2 at *
  generalize unF M = g3 at *
  exact ⟨a, b, c⟩
theorem low_eqG (r : Nat) : LowEq (rlowG r) (lowF r) := by
  induction r with
  | zero =>
    rw [rlowG_zero, lowF_zero]
    exact ⟨fun s _ => Eqv.rfl' _, fun s _ => Eqv.rfl' _, fun s _ => Eqv.rfl' _⟩
  | succ r ih =>
    rw [rlowG_succ, lowF_succ]
    exact low_succ_eqG ih (low_adv r)
theorem low_ad {L M : Low} (h : LowEq L M) (hM : LowA M) : LowA L :=
  LowA.mk (fun s hs => by rw [(h.ex s hs).1]; exact hM.ex s hs) (fun s hs => by rw [(h.st s hs).1]; exact hM.st s hs) (fun s hs => by rw [(h.un s hs).1]; exact hM.un s hs) (fun s hs hf => by rw [(h.st s hs).1]; exact hM.pr s hs hf)
theorem lowG_ad (r : Nat) : LowA (rlowG r) := low_ad (low_eqG r) (low_adv r)
theorem tree_eqG {l : List Tok} (h : OkS ⟨l, 0, 0⟩) : rtreeG l = treeF l := by
  have e := stmts_eq (low_eqG 100) (low_adv 100) endF (l.length + 1) _ h
  unfold rtreeG treeF
  generalize stmtsF (rlowG 100) endF (l.length + 1) ⟨l, 0, 0⟩ = X at e ⊢
  generalize stmtsF (lowF 100) endF (l.length + 1) ⟨l, 0, 0⟩ = Y at e ⊢
  obtain ⟨e1, e2⟩ := e
  simp only
  rw [e1]
  split
  · rename_i hf
    rw [e2 hf]
  · rfl
section
variable {g d : Nat} {s : PS} {S0 : Nat → Prop} {w0 W : World} {bs : List (Nat × Nd)} {vs : List (Tree × Nd)}
theorem Env.deep (E : Env g (d + 1) s S0 w0 W bs vs) (hd : d < 100) : ∃ D M, W.cell? ⟨g, 2, none⟩ = some (.int .i64 D) ∧ W.frozen? ⟨g, 2, none⟩ = false ∧ IntKind.i64.wrap (D - 1) = M ∧ Env g d s S0 w0 (W.setCell ⟨g, 2, none⟩ (.int .i64 M)) bs vs := by
  obtain ⟨b, o, c, n, k, D, T, ho⟩ := E.at_.opn
  refine ⟨D, _, ho.c2, ho.fz 2, rfl, E.frame (E.at_.setd fun hf => ?_) (GB.set _ _ _)⟩
  rw [(ho.lv hf).2.1, IntKind.wrap_i64]
  omega
theorem Env.adv (E : Env g d s S0 w0 W bs vs) (hk : ¬ (s.next.kind = 0 ∨ s.next.kind = -1)) : ∃ k : Nat, k ≤ 100000 ∧ W.cell? ⟨g, 1, none⟩ = some (.int .i64 (k : Int)) ∧ W.frozen? ⟨g, 1, none⟩ = false ∧ Env g d s.take S0 w0 (W.setCell ⟨g, 1, none⟩ (.int .i64 ((k : Int) + 1))) bs vs := by
  obtain ⟨b, o, c, n, k, D, T, ho⟩ := E.at_.opn
  have := ho.kn
  have := ho.n5
  exact ⟨k, by omega, ho.c1, ho.fz 1, E.frame (E.at_.setk hk ho (by omega)) (GB.set _ _ _)⟩
end
end Go.Proofs.YtinoaajohkafmaaGreat.Rp

/-
  The reference's parser: a function.
-/
namespace Go.Proofs.YtinoaajohkafmaaGreat.Rp
open Go Go.RowKit Go.Proofs.YtinoaajohkafmaaGreat.Uni Go.Proofs.YtinoaajohkafmaaGreat.Pa
open Go.Proofs.YtinoaajohkafmaaGreat.Lx
set_option linter.unusedVariables false
set_option linter.unusedSimpArgs false
attribute [local go_sem ↓] ldK stK alK bdK bsK ldN stN alN bdN bsN
attribute [local irreducible] kcs ncs ncells
attribute [local go_sem] run_alK run_bdK0 run_bdKs run_bdKn run_bdKe run_bsK run_fdK0 run_fdK1 run_fdK2 run_fdK3 run_fdN4 run_alN run_stNg run_ldNg run_bdN0 run_bdN04 run_bdN02 run_bdN01 run_bdN024 run_bdN03 run_bdN0234 run_bsN1 run_bsN2 run_bsN3
attribute [local go_sem ↓] bsS
attribute [local go_sem] run_bsS1
theorem Env.funcN {g d : Nat} {s : PS} {S0 : Nat → Prop} {w0 W : World} {bs : List (Nat × Nd)} {vs : List (Tree × Nd)} (E : Env g d s S0 w0 W bs vs) {k n : Int} {t : ByteArray} {ns : List ByteArray} {S : Sl} {T : Tree} {N : Nd} (h1 : (.mk k n t ns [], ⟨k, n, t, S, nilSl⟩) ∈ vs) (h2 : (T, N) ∈ vs) : Env g d s S0 w0 W bs ((.mk k n t ns T.kids, ⟨k, n, t, S, ⟨N.kids.a, N.kids.n, N.kids.c⟩⟩) :: vs) := E.func h1 h2
structure FI (g d : Nat) (w wr : World) (b : Nat) (nm : ByteArray) (R : List ByteArray × PS) (ts : List ByteArray) (S : Sl) (s : PS) (f : Nat) : Prop where
  env : Env g d s (fun _ => False) w wr [(b, ⟨14, 0, nm, S, nilSl⟩), (w.heap.size, zeroN)] []
  gr : GrowN (Own (fun _ => False) w.heap.size [b, w.heap.size]) w.heap.size wr ts (.slice S.a S.n S.c)
  fu : s.left.length ≤ f
  len : ts.length + s.left.length ≤ 100001
  eq : R = (ts ++ (moreF nameF f s).1, (moreF nameF f s).2)
set_option maxRecDepth 100000 in
set_option maxHeartbeats 4000000 in
theorem func_A {d : Nat} {L : Low} (hL : LowC d L) {g : Nat} {s : PS} {w : World} (h : At g d s w) (nm : ByteArray) {s1 : PS} (hs1 : needsF ⟨#[40]⟩ s = s1) (hf : s1.fault ≠ 0) :
    Calls Tryz.prog 84 #[.pointer (some ⟨g, 0, none⟩), .string nm] w (PostN g d w (.mk 14 0 nm [] (blockF L (needsF ⟨#[41]⟩ s1)).1.kids, (blockF L (needsF ⟨#[41]⟩ s1)).2)) := by
  have hq : (s1.fault == 0) = false := by simpa using hf
  have E0 := ((Env.start h).new zeroN).newAt ⟨14, 0, nm, nilSl, nilSl⟩ (b := w.heap.size + 1) (by simp)
  have c1 := want_any E0.at_ ⟨#[40]⟩
  rw [hs1] at c1
  have sg := run_stNk (W := w.alloc (.cells (ncs zeroN) 25)) (b := w.heap.size + 1) (by simp)
  have HE0 := Lib.hid E0
  clear E0 h hs1 hf
  go_enter Tryz.func84, Tryz.ntmps84
  go_wp2_with (first | (go_at_call 82; (with_reducible refine c1.mono ?_); intro e w1 hp; obtain ⟨rfl, E1⟩ := HE0.out.call hp; have E1 := E1.leaf 14 0 nm; have x3 := E1.e3; have c2 := want_any E1.at_ ⟨#[41]⟩; have HE1 := Lib.hid E1; clear hp E1) | (go_at_call 82; (with_reducible refine c2.mono ?_); intro e w2 hp; obtain ⟨rfl, E2⟩ := HE1.out.call hp; have c3 := block_any hL E2.at_; have HE2 := Lib.hid E2; clear hp E2) | (go_at_call 87; (with_reducible refine c3.mono ?_); intro e w3 hp; obtain ⟨N3, rfl, E3⟩ := HE2.out.callN hp; have E3 := E3.funcN (List.mem_cons_of_mem _ List.mem_cons_self) List.mem_cons_self; have fa := E3.fz 0 rfl 4; have da := E3.c4 0 rfl; have E3 := E3.set4 0 rfl N3.kids.a N3.kids.n N3.kids.c; have l3 := E3.ld 0 rfl; have s3 := E3.sto 1 rfl; have HE3 := Lib.hid E3; clear hp E3))
  exact ((HE3.out.store 1 rfl _).fin (List.mem_cons_of_mem _ List.mem_cons_self) List.mem_cons_self rfl rfl)
set_option maxRecDepth 100000 in
set_option maxHeartbeats 4000000 in
theorem func_B {d : Nat} {L : Low} (hL : LowC d L) {g : Nat} {s : PS} {w : World} (h : At g d s w) (nm : ByteArray) {s1 : PS} (hs1 : needsF ⟨#[40]⟩ s = s1) (hf : s1.fault = 0) (hk : seesF ⟨#[41]⟩ s1 = true) :
    Calls Tryz.prog 84 #[.pointer (some ⟨g, 0, none⟩), .string nm] w (PostN g d w (.mk 14 0 nm [] (blockF L (needsF ⟨#[41]⟩ s1)).1.kids, (blockF L (needsF ⟨#[41]⟩ s1)).2)) := by
  have E0 := ((Env.start h).new zeroN).newAt ⟨14, 0, nm, nilSl, nilSl⟩ (b := w.heap.size + 1) (by simp)
  have c1 := want_any E0.at_ ⟨#[40]⟩
  rw [hs1] at c1
  have sg := run_stNk (W := w.alloc (.cells (ncs zeroN) 25)) (b := w.heap.size + 1) (by simp)
  have HE0 := Lib.hid E0
  clear E0 h hs1
  go_enter Tryz.func84, Tryz.ntmps84
  go_wp2_with (first | (go_at_call 82; (with_reducible refine c1.mono ?_); intro e w1 hp; obtain ⟨rfl, E1⟩ := HE0.out.call hp; have E1 := E1.leaf 14 0 nm; have x3 := E1.e30 hf; have c2 := is_any E1.at_ hf ⟨#[41]⟩; rw [hk] at c2; have HE1 := Lib.hid E1; clear hp E1) | (go_at_call 37; (with_reducible refine c2.mono ?_); intro e w2 hp; obtain ⟨rfl, E2⟩ := HE1.out.callR hp; have c3 := want_any E2.at_ ⟨#[41]⟩; have HE2 := Lib.hid E2; clear hp E2) | (go_at_call 82; (with_reducible refine c3.mono ?_); intro e w3 hp; obtain ⟨rfl, E3⟩ := HE2.out.call hp; have c4 := block_any hL E3.at_; have HE3 := Lib.hid E3; clear hp E3) | (go_at_call 87; (with_reducible refine c4.mono ?_); intro e w4 hp; obtain ⟨N4, rfl, E4⟩ := HE3.out.callN hp; have E4 := E4.funcN (List.mem_cons_of_mem _ List.mem_cons_self) List.mem_cons_self; have fa := E4.fz 0 rfl 4; have da := E4.c4 0 rfl; have E4 := E4.set4 0 rfl N4.kids.a N4.kids.n N4.kids.c; have l4 := E4.ld 0 rfl; have s4 := E4.sto 1 rfl; have HE4 := Lib.hid E4; clear hp E4))
  exact ((HE4.out.store 1 rfl _).fin (List.mem_cons_of_mem _ List.mem_cons_self) List.mem_cons_self rfl rfl)
set_option maxRecDepth 100000 in
set_option maxHeartbeats 4000000 in
theorem func_C {d : Nat} {L : Low} (hL : LowC d L) {g : Nat} {s : PS} {w : World} (h : At g d s w) (nm : ByteArray) {s1 : PS} (hs1 : needsF ⟨#[40]⟩ s = s1) (hf : s1.fault = 0) (hk : seesF ⟨#[41]⟩ s1 = false) {R : List ByteArray × PS} (hR : R = ((nameF s1).1 :: (moreF nameF (nameF s1).2.left.length (nameF s1).2).1, (moreF nameF (nameF s1).2.left.length (nameF s1).2).2)) :
    Calls Tryz.prog 84 #[.pointer (some ⟨g, 0, none⟩), .string nm] w (PostN g d w (.mk 14 0 nm R.1 (blockF L (needsF ⟨#[41]⟩ R.2)).1.kids, (blockF L (needsF ⟨#[41]⟩ R.2)).2)) := by
  have hok : OkS s1 := by rw [← hs1]; exact (needs_adv _ s h.ok).1
  obtain ⟨X, hX⟩ : ∃ X, nameF s1 = X := ⟨_, rfl⟩
  have had := name_adv s1 hok
  rw [hX] at had hR
  have hXl : X.2.left.length ≤ 100000 := Nat.le_trans had.2.1 hok.len
  have HX := Lib.hid hX
  have HRR := Lib.hid hR
  clear hX hR had hok
  have E0 := ((Env.start h).new zeroN).newAt ⟨14, 0, nm, nilSl, nilSl⟩ (b := w.heap.size + 1) (by simp)
  have c1 := want_any E0.at_ ⟨#[40]⟩
  rw [hs1] at c1
  have sg := run_stNk (W := w.alloc (.cells (ncs zeroN) 25)) (b := w.heap.size + 1) (by simp)
  have HE0 := Lib.hid E0
  clear E0 h hs1
  go_enter Tryz.func84, Tryz.ntmps84
  go_wp2_with (first | (go_at_call 82; (with_reducible refine c1.mono ?_); intro e w1 hp; obtain ⟨rfl, E1⟩ := HE0.out.call hp; have x3 := E1.e30 hf; have c2 := is_any E1.at_ hf ⟨#[41]⟩; rw [hk] at c2; have HE1 := Lib.hid E1; clear hp E1) | (go_at_call 37; (with_reducible refine c2.mono ?_); intro e w2 hp; obtain ⟨rfl, E2⟩ := HE1.out.callR hp; have E2 := E2.drew1; have d2 : w2.drew.cell? ⟨w.heap.size + 1, 3, none⟩ = some (.slice none 0 0) := E2.c3 0 rfl; have fz2 := E2.fz 0 rfl 3; have c3 := name_any E2.at_; rw [HX.out] at c3; have HG2 := Lib.hid (GrowN.nil (Own (fun _ => False) w.heap.size [w.heap.size + 1, w.heap.size]) w.heap.size w2.drew); have HE2 := Lib.hid E2; clear hp E2))
  go_region_law (first | (go_simp; go_at_call 80; (with_reducible refine c3.mono ?_); intro e v6 hp; obtain ⟨a6, n6, cc6, u6w, rfl, E5, hrun6, E6, G6⟩ := app_name HE2.out HG2.out hp (by simp); have d5 : v6.cell? ⟨w.heap.size + 1, 3, none⟩ = some (.slice none 0 0) := E5.c3 0 rfl; have d5a : ∀ o, (v6.alloc o).cell? ⟨w.heap.size + 1, 3, none⟩ = some (.slice none 0 0) := fun o => (E5.alloc o).c3 0 rfl; have f6 := E6.fz 0 rfl 3; have d6 := E6.c3 0 rfl; have E7 := E6.set3 0 rfl a6 n6 cc6; have G7 := grown_cell G6 0 rfl 3 (.slice a6 n6 cc6) (bs' := [(w.heap.size + 1, ⟨14, 0, nm, ⟨a6, n6, cc6⟩, nilSl⟩), (w.heap.size, zeroN)]) rfl; have HST := Lib.hid (FI.mk (R := R) (f := X.2.left.length) E7 G7 (Nat.le_refl _) (by simp; omega) HRR.out); clear hp E5 E6 G6 E7 G7; dsimp only) | (refine step_app rfl (.tmp 21) (.tmp 24) 22 rfl rfl _ _ _ (by simp [Act.eval, Act.put]) (by simp [Act.eval, Act.put]) hrun6 ?_))
  all_goals (
    go_wp2
    go_loopw [] (fun wr => ∃ ts S s f, FI g d w wr (w.heap.size + 1) nm R ts S s f) (fun wr => measS g wr)
    case atStart => exact ⟨_, _, _, _, HST.out⟩
    case round =>
      obtain ⟨ts, S, s', f, hI⟩ := hrel
      have hmeas := hI.env.at_.meas
      cases hk : seesF ⟨#[44]⟩ s' with
      | false =>
        have ht := take_f hI.env.at_ hk
        have he := hI.eq
        rw [moreF_nil hk, List.append_nil] at he
        have HE1 := Lib.hid (hI.env.ofNames hI.gr 14 0 nm)
        clear hk hI hmeas HRR HST
        subst he
        go_wp2_with (first | (go_at_call 79; (with_reducible refine ht.mono ?_); intro e w2 hp; obtain ⟨rfl, E2⟩ := HE1.out.call hp; have c3 := want_any E2.at_ ⟨#[41]⟩; have HE2 := Lib.hid E2; clear hp E2) | (go_at_call 82; (with_reducible refine c3.mono ?_); intro e w3 hp; obtain ⟨rfl, E3⟩ := HE2.out.call hp; have c4 := block_any hL E3.at_; have HE3 := Lib.hid E3; clear hp E3) | (go_at_call 87; (with_reducible refine c4.mono ?_); intro e w4 hp; obtain ⟨N4, rfl, E4⟩ := HE3.out.callN hp; have E4 := E4.funcN (List.mem_cons_of_mem _ List.mem_cons_self) List.mem_cons_self; have fa := E4.fz 0 rfl 4; have da := E4.c4 0 rfl; have E4 := E4.set4 0 rfl N4.kids.a N4.kids.n N4.kids.c; have l4 := E4.ld 0 rfl; have s4 := E4.sto 1 rfl; have HE4 := Lib.hid E4; clear hp E4))
        exact ((HE4.out.store 1 rfl _).fin (List.mem_cons_of_mem _ List.mem_cons_self) List.mem_cons_self rfl rfl)
      | true =>
        have ht := take_t hI.env.at_ hk
        have hsk := sees_kind hk
        have hf' : s'.fault = 0 := hI.env.at_.ok.live (fun e => hsk (.inr e))
        rw [if_pos hf'] at hmeas
        have hfu := hI.fu
        obtain ⟨f', rfl⟩ : ∃ f', f = f' + 1 := ⟨f - 1, by have := hI.env.at_.ok.pos; omega⟩
        have he := hI.eq
        obtain ⟨Y, hY⟩ : ∃ Y, nameF s'.take = Y := ⟨_, rfl⟩
        rw [moreF_cons hk, hY] at he
        have hadv := ad_take (name_adv s'.take) hI.env.at_.ok hsk
        rw [hY] at hadv
        have HEE := Lib.hid he
        have HY := Lib.hid hY
        have HV := Lib.hid hadv
        have HF := Lib.hid hfu
        have HM := Lib.hid hmeas
        have HLN := Lib.hid hI.len
        have hn1 : ts.length ≤ 200000 := by have := hI.len; omega
        have HE1 := Lib.hid hI.env
        have HG1 := Lib.hid hI.gr
        clear hk hI he hY hadv hfu hsk hf' hmeas HST
        go_wp2_with (go_at_call 79; (with_reducible refine ht.mono ?_); intro e w3 hp; have G3 := grown_gb HG1.out HE1.out hp.2.2; obtain ⟨rfl, E3⟩ := HE1.out.call hp; have E3 := E3.drew1; have d3 : w3.drew.cell? ⟨w.heap.size + 1, 3, none⟩ = some (.slice S.a S.n S.c) := E3.c3 0 rfl; have fz3 := E3.fz 0 rfl 3; have c4 := name_any E3.at_; rw [HY.out] at c4; have HE3 := Lib.hid E3; have HG3 := Lib.hid G3.drew; clear hp E3 G3)
        go_region_law (first | (go_simp; go_at_call 80; (with_reducible refine c4.mono ?_); intro e v16 hp; obtain ⟨a16, n16, cc16, u16w, rfl, E5, hrun16, E6, G6⟩ := app_name HE3.out HG3.out hp (hn1); have d5 : v16.cell? ⟨w.heap.size + 1, 3, none⟩ = some (.slice S.a S.n S.c) := E5.c3 0 rfl; have d5a : ∀ o, (v16.alloc o).cell? ⟨w.heap.size + 1, 3, none⟩ = some (.slice S.a S.n S.c) := fun o => (E5.alloc o).c3 0 rfl; have f6 := E6.fz 0 rfl 3; have d6 := E6.c3 0 rfl; have E7 := E6.set3 0 rfl a16 n16 cc16; have G7 := grown_cell G6 0 rfl 3 (.slice a16 n16 cc16) (bs' := [(w.heap.size + 1, ⟨14, 0, nm, ⟨a16, n16, cc16⟩, nilSl⟩), (w.heap.size, zeroN)]) rfl; have HE7 := Lib.hid E7; have HG7 := Lib.hid G7; clear hp E5 E6 G6 E7 G7; dsimp only) | (refine step_app rfl (.tmp 30) (.tmp 33) 22 rfl rfl _ _ _ (by simp [Act.eval, Act.put]) (by simp [Act.eval, Act.put]) hrun16 ?_))
        all_goals (
          go_wp2
          go_roundw
          case rel =>
            refine ⟨ts ++ [Y.1], ⟨a16, n16, cc16⟩, Y.2, f', HE7.out, HG7.out, ?_, ?_, ?_⟩
            · have := HV.out; have := HF.out; omega
            · have := HV.out; have := HLN.out; simp; omega
            · rw [HEE.out]; simp
          case measure =>
            rw [HE7.out.at_.meas, HM.out]
            have := HV.out
            split <;> omega))
theorem func_any {d : Nat} {L : Low} (hL : LowC d L) {g : Nat} {s : PS} {w : World} (h : At g d s w) (nm : ByteArray) :
    Calls Tryz.prog 84 #[.pointer (some ⟨g, 0, none⟩), .string nm] w (PostN g d w (rfuncF L nm s)) := by
  obtain ⟨s1, hs1⟩ : ∃ s1, needsF ⟨#[40]⟩ s = s1 := ⟨_, rfl⟩
  unfold rfuncF rlistF
  rw [hs1]
  by_cases hf : s1.fault = 0
  · cases hk : seesF ⟨#[41]⟩ s1 with
    | true => simp only [hf]; exact func_B hL h nm hs1 hf hk
    | false => simp only [hf]; exact func_C hL h nm hs1 hf hk rfl
  · simp only [hf]; exact func_A hL h nm hs1 hf
end Go.Proofs.YtinoaajohkafmaaGreat.Rp
