/-
  Texts of this seat in build order: NmDec, RpKey.
-/
import Derived.Test.YtinoaajohkafmaaGreatMw01
import Derived.KernelRfl
import Derived.Lib.ItoaMem
import Derived.Test.YtinoaajohkafmaaGreatMw17
/-
  The reference's decimal text: it is the library's.
-/
namespace Go.Proofs.YtinoaajohkafmaaGreat.Nums
open Go.RowKit
set_option linter.unusedVariables false
def dgT (d : Nat) : ByteArray := ⟨#[UInt8.ofNat (48 + d)]⟩
theorem dg_piece (d : Nat) (h : d < 10) : (⟨#[48, 49, 50, 51, 52, 53, 54, 55, 56, 57]⟩ : ByteArray).extract d (d + 1) = dgT d := by
  match d, h with
  | 0, _ | 1, _ | 2, _ | 3, _ | 4, _ | 5, _ | 6, _ | 7, _ | 8, _ | 9, _ => rfl
theorem dg_slice (d : Nat) (h : d < 10) (w : World) : (Instr.slice 9 (.string ⟨#[48, 49, 50, 51, 52, 53, 54, 55, 56, 57]⟩) (some (.int .i64 (d : Int))) (some (.int .i64 ((d : Int) + 1))) none).run Tryz.prog w = .ok (.string (dgT d)) w := by
  rw [run_slice_string_if (h := Tryz.underlying9)]
  have hs : ((⟨#[48, 49, 50, 51, 52, 53, 54, 55, 56, 57]⟩ : ByteArray).size : Int) = 10 := rfl
  rw [hs, if_pos (by omega), if_pos (by omega), ← dg_piece d h]
  rfl
set_option maxHeartbeats 1000000 in
theorem rdec_small (u : Nat) (h : u < 10) (w : World) :
    Calls Tryz.prog 140 #[.int .i64 (u : Int)] w fun e w' => e = .returned (.string (dgT u)) ∧ w = w' := by
  have hm : (u : Int) % 10 = u := by omega
  have hd := fun w => dg_slice u h w
  go_enter Tryz.func140, Tryz.ntmps140
  go_wp2
  go_ret
  exact ⟨rfl, rfl⟩
theorem dg_size (r : Nat) : (dgT r).size = 1 := rfl
theorem minus_size : (⟨#[45]⟩ : ByteArray).size = 1 := rfl
set_option maxHeartbeats 1000000 in
theorem rdec_big (u q r : Nat) (h : 9 < u) (hu : u ≤ 9223372036854775807) (hr : r < 10) (hm : (u : Int) % 10 = r) (hq : (u : Int) / 10 = q) (s t : ByteArray)
    (hc : ∀ w, Calls Tryz.prog 140 #[.int .i64 (q : Int)] w fun e w' => e = .returned (.string s) ∧ w = w') (hz : s.size ≤ 100) (hst : s ++ dgT r = t) (w : World) :
    Calls Tryz.prog 140 #[.int .i64 (u : Int)] w fun e w' => e = .returned (.string t) ∧ w = w' := by
  have hd := fun w => dg_slice r hr w
  have h1 : s.size + (dgT r).size ≤ 9223372036854775807 := by rw [dg_size]; omega
  clear hz
  go_enter Tryz.func140, Tryz.ntmps140
  go_wp2_with (go_at_call 140; (with_reducible refine (hc _).mono ?_); rintro e w' ⟨rfl, rfl⟩)
  go_ret
  exact ⟨rfl, rfl⟩
theorem bytes_app (a b : List UInt8) : (⟨a.toArray⟩ : ByteArray) ++ ⟨b.toArray⟩ = ⟨(a ++ b).toArray⟩ := by
  apply ByteArray.ext
  simp
theorem dgT_eq (r : Nat) : dgT r = ⟨[UInt8.ofNat (48 + r)].toArray⟩ := rfl
theorem dec_size (u : Nat) (hu : u ≤ 9223372036854775808) : (⟨(Lib.decDigits u).toArray⟩ : ByteArray).size ≤ 19 := by
  show (Lib.decDigits u).toArray.size ≤ 19
  have := dec_len 18 u (by omega)
  simpa using this
theorem rdec_nonneg (u : Nat) : u ≤ 9223372036854775807 → ∀ w, Calls Tryz.prog 140 #[.int .i64 (u : Int)] w fun e w' => e = .returned (.string ⟨(Lib.decDigits u).toArray⟩) ∧ w = w' := by
  induction u using Nat.strongRecOn with
  | ind u ih =>
    intro hu w
    by_cases h : u < 10
    · rw [Lib.decDigits_one h]; exact rdec_small u h w
    · refine rdec_big u (u / 10) (u % 10) (by omega) hu (by omega) (by omega) (by omega) _ _ (ih (u / 10) (by omega) (by omega)) (by have := dec_size (u / 10) (by omega); omega) ?_ w
      rw [dgT_eq, bytes_app]
      congr 2
      rw [Lib.decDigits.eq_1 u, dif_neg h]
set_option maxHeartbeats 1000000 in
theorem rdec_neg0 (n : Int) (q r : Nat) (h : n < 0) (hn : -9223372036854775808 ≤ n) (hr : r < 10) (hm : n.tmod 10 = -(r : Int)) (hq : n.tdiv 10 = -(q : Int)) (hq1 : q ≤ 922337203685477580) (hz0 : q = 0) (w : World) :
    Calls Tryz.prog 140 #[.int .i64 n] w fun e w' => e = .returned (.string (⟨#[45]⟩ ++ dgT r)) ∧ w = w' := by
  have hd := fun w => dg_slice r hr w
  subst hz0
  have hc : ∀ w, Calls Tryz.prog 140 #[.int .i64 0] w fun e w' => e = .returned (.string ⟨#[48]⟩) ∧ w = w' := fun w => rdec_small 0 (by omega) w
  have h1 : (⟨#[45]⟩ : ByteArray).size + (dgT r).size ≤ 9223372036854775807 := by rw [dg_size, minus_size]; omega
  go_enter Tryz.func140, Tryz.ntmps140
  go_wp2_with (go_at_call 140; (with_reducible refine (hc _).mono ?_); rintro e w' ⟨rfl, rfl⟩)
  go_ret
  exact ⟨rfl, rfl⟩
set_option maxHeartbeats 1000000 in
theorem rdec_neg1 (n : Int) (q r : Nat) (h : n < 0) (hn : -9223372036854775808 ≤ n) (hr : r < 10) (hm : n.tmod 10 = -(r : Int)) (hq : n.tdiv 10 = -(q : Int)) (hq1 : q ≤ 922337203685477580) (s t : ByteArray)
    (hc : ∀ w, Calls Tryz.prog 140 #[.int .i64 (q : Int)] w fun e w' => e = .returned (.string s) ∧ w = w') (hs0 : (s.toList == [48]) = false) (hz : s.size ≤ 100) (hst : (⟨#[45]⟩ : ByteArray) ++ s ++ dgT r = t) (w : World) :
    Calls Tryz.prog 140 #[.int .i64 n] w fun e w' => e = .returned (.string t) ∧ w = w' := by
  have hd := fun w => dg_slice r hr w
  have h1 : (⟨#[45]⟩ : ByteArray).size + s.size ≤ 9223372036854775807 := by rw [minus_size]; omega
  have h2 : (⟨#[45]⟩ ++ s : ByteArray).size + (dgT r).size ≤ 9223372036854775807 := by rw [dg_size, ByteArray.size_append, minus_size]; omega
  have h3 : 1 + s.size + (dgT r).size ≤ 9223372036854775807 := by rw [dg_size]; omega
  clear hz
  go_enter Tryz.func140, Tryz.ntmps140
  go_wp2_with (go_at_call 140; (with_reducible refine (hc _).mono ?_); rintro e w' ⟨rfl, rfl⟩)
  go_ret
  exact ⟨rfl, rfl⟩
theorem rdec_any (n : Int) (h0 : -9223372036854775808 ≤ n) (h1 : n ≤ 9223372036854775807) (w : World) :
    Calls Tryz.prog 140 #[.int .i64 n] w fun e w' => e = .returned (.string ⟨(Lib.itoa n).toArray⟩) ∧ w = w' := by
  by_cases hn : n < 0
  · obtain ⟨u, hu⟩ : ∃ u : Nat, u = n.natAbs := ⟨_, rfl⟩
    have hi : Lib.itoa n = 45 :: Lib.decDigits u := by rw [hu]; exact if_pos hn
    have e : n = -(u : Int) := by omega
    have hm : n.tmod 10 = -((u % 10 : Nat) : Int) := by rw [e, Int.neg_tmod]; rfl
    have hq : n.tdiv 10 = -((u / 10 : Nat) : Int) := by rw [e, Int.neg_tdiv]; rfl
    by_cases hz : u / 10 = 0
    · have hu9 : u < 10 := by omega
      have hr := rdec_neg0 n (u / 10) (u % 10) hn h0 (by omega) hm hq (by omega) hz w
      rw [hi, Lib.decDigits_one hu9]
      have e2 : u % 10 = u := by omega
      rw [e2, dgT_eq] at hr
      exact hr
    · rw [hi, Lib.decDigits.eq_1 u, dif_neg (show ¬ u < 10 by omega)]
      refine rdec_neg1 n (u / 10) (u % 10) hn h0 (by omega) hm hq (by omega) _ _ (rdec_nonneg (u / 10) (by omega)) ?_ (by have := dec_size (u / 10) (by omega); omega) ?_ w
      · rw [ByteArray.toList_mk]
        have : Lib.decDigits (u / 10) ≠ [48] := fun hh => by
          have hv := val_dec (u / 10)
          rw [hh] at hv
          have e48 : valD [48] = 0 := by decide
          omega
        simpa using this
      · rw [dgT_eq, bytes_app]
        exact bytes_app [45] _ |>.symm ▸ rfl
  · obtain ⟨u, rfl⟩ : ∃ u : Nat, n = u := ⟨n.toNat, by omega⟩
    rw [Lib.itoa_nonneg]
    exact rdec_nonneg u (by omega) w
end Go.Proofs.YtinoaajohkafmaaGreat.Nums

/-
  The reference's parser: a key.
-/
namespace Go.Proofs.YtinoaajohkafmaaGreat.Rp
open Go Go.RowKit Go.Proofs.YtinoaajohkafmaaGreat.Uni Go.Proofs.YtinoaajohkafmaaGreat.Pa
open Go.Proofs.YtinoaajohkafmaaGreat.Lx
set_option linter.unusedVariables false
set_option linter.unusedSimpArgs false
attribute [local go_sem ↓] ldK stK alK bdK bsK ldN stN alN bdN bsN
attribute [local irreducible] kcs ncs ncells
attribute [local go_sem] run_alK run_bdK0 run_bdKs run_bdKn run_bdKe run_bsK run_fdK0 run_fdK1 run_fdK2 run_fdK3 run_fdN4 run_alN run_stNg run_ldNg run_bdN0 run_bdN04 run_bdN02 run_bdN01 run_bdN024 run_bdN03 run_bdN0234 run_bsN1 run_bsN2 run_bsN3
theorem At.take_in {g d : Nat} {s : PS} {w : World} (h : At g d s w) (hf : s.fault = 0) (hk2 : ¬ (s.next.kind = 0 ∨ s.next.kind = -1)) : ∃ k : Nat, k ≤ 100000 ∧ ∀ W, Below w.heap.size w W → W.cell? ⟨g, 3, none⟩ = some (.int .i64 0) ∧ W.cell? ⟨g, 1, none⟩ = some (.int .i64 (k : Int)) ∧ W.frozen? ⟨g, 1, none⟩ = false ∧ At g d s.take (W.setCell ⟨g, 1, none⟩ (.int .i64 ((k : Int) + 1))) := by
  obtain ⟨b, o, c, n, k, D, T, ho⟩ := h.opn
  have n5 := ho.n5
  have kn := ho.kn
  refine ⟨k, by omega, fun W hb => ?_⟩
  have o1 := ho.below hb
  have e3 := o1.c3
  rw [hf] at e3
  exact ⟨e3, o1.c1, o1.fz 1, (h.below hb).setk hk2 o1 (by omega)⟩
theorem At.nums {g d : Nat} {s : PS} {w : World} (h : At g d s w) : -9223372036854775808 ≤ s.next.num ∧ s.next.num ≤ 9223372036854775807 := by
  obtain ⟨r, hr⟩ := h.ok.cons
  exact h.ok.nums s.next (by rw [hr]; exact List.mem_cons_self)
attribute [local go_sem] run_stKg
set_option maxRecDepth 100000 in
set_option maxHeartbeats 4000000 in
theorem key_4 {d g : Nat} {s : PS} {w : World} (h : At g d s w) (hk : s.next.kind = 4) :
    Calls Tryz.prog 139 #[.pointer (some ⟨g, 0, none⟩)] w (Post g d w (.string s.next.text) s.take) := by
  have hk2 : ¬ (s.next.kind = 0 ∨ s.next.kind = -1) := by rw [hk]; decide
  have hf := h.ok.live (fun e => hk2 (.inr e))
  have cn := now_any h hf
  obtain ⟨k, k5, hx⟩ := h.take_in hf hk2
  have tk0 := fun w : World => ((Blk.new w (kcs s.next) 73).cell 0).trans (kcs_0 s.next)
  have tk2 := fun w : World => ((Blk.new w (kcs s.next) 73).cell 2).trans (kcs_2 s.next)
  have tk3 := fun w : World => ((Blk.new w (kcs s.next) 73).cell 3).trans (kcs_3 s.next)
  have s0 := fun w => run_stKg w w.heap.size s.next zeroK rfl
  have HX := Lib.hid hx
  have e4 : (s.next.kind == 4) = true := by rw [hk]; rfl
  clear h hf hk hk2 hx
  go_enter Tryz.func139, Tryz.ntmps139
  go_wp2_with (go_at_call 36; (with_reducible refine cn.mono ?_); rintro e w1 ⟨rfl, hb⟩; have t0 := tk0 w1; have t2 := tk2 w1; have t3 := tk3 w1; obtain ⟨z3, z1, zf, zA⟩ := HX.out _ (hb.trans ((bel1 (o := .cells (kcs s.next) 73)).mono hb.size)); have z4 : ((w1.alloc (.cells (kcs s.next) 73)).setCell ⟨g, 1, none⟩ (.int .i64 ((k : Int) + 1))).cell? ⟨w1.heap.size, 3, none⟩ = some (.string s.next.text) := (by rw [World.cell?_setCell_other _ _ _ _ (by simp)]; exact t3); have HZ := Lib.hid zA; have HB := Lib.hid hb; clear hb zA)
  go_ret
  exact ⟨rfl, HZ.out, ((GB.of HB.out).trans (GB.of bel1)).trans (GB.set _ _ _)⟩
set_option maxRecDepth 100000 in
set_option maxHeartbeats 4000000 in
theorem key_3 {d g : Nat} {s : PS} {w : World} (h : At g d s w) (hk : s.next.kind = 3) :
    Calls Tryz.prog 139 #[.pointer (some ⟨g, 0, none⟩)] w (Post g d w (.string (numT s.next.num)) s.take) := by
  have hk2 : ¬ (s.next.kind = 0 ∨ s.next.kind = -1) := by rw [hk]; decide
  have hf := h.ok.live (fun e => hk2 (.inr e))
  have cn := now_any h hf
  obtain ⟨k, k5, hx⟩ := h.take_in hf hk2
  have tk0 := fun w : World => ((Blk.new w (kcs s.next) 73).cell 0).trans (kcs_0 s.next)
  have tk2 := fun w : World => ((Blk.new w (kcs s.next) 73).cell 2).trans (kcs_2 s.next)
  have tk3 := fun w : World => ((Blk.new w (kcs s.next) 73).cell 3).trans (kcs_3 s.next)
  have s0 := fun w => run_stKg w w.heap.size s.next zeroK rfl
  have HX := Lib.hid hx
  have e4 : (s.next.kind == 4) = false := by rw [hk]; rfl
  have e3 : (s.next.kind == 3) = true := by rw [hk]; rfl
  obtain ⟨n0, n1⟩ := h.nums
  have cd := Nums.rdec_any s.next.num n0 n1
  clear h hf hk hk2 hx n0 n1
  go_enter Tryz.func139, Tryz.ntmps139
  go_wp2_with (first | (go_at_call 36; (with_reducible refine cn.mono ?_); rintro e w1 ⟨rfl, hb⟩; have t0 := tk0 w1; have t2 := tk2 w1; have t3 := tk3 w1; obtain ⟨z3, z1, zf, zA⟩ := HX.out _ (hb.trans ((bel1 (o := .cells (kcs s.next) 73)).mono hb.size)); have z4 : ((w1.alloc (.cells (kcs s.next) 73)).setCell ⟨g, 1, none⟩ (.int .i64 ((k : Int) + 1))).cell? ⟨w1.heap.size, 2, none⟩ = some (.int .i64 s.next.num) := (by rw [World.cell?_setCell_other _ _ _ _ (by simp)]; exact t2); have HZ := Lib.hid zA; have HB := Lib.hid hb; clear hb zA) | (go_at_call 140; (with_reducible refine (cd _).mono ?_); rintro e w2 ⟨rfl, rfl⟩))
  go_ret
  exact ⟨rfl, HZ.out, ((GB.of HB.out).trans (GB.of bel1)).trans (GB.set _ _ _)⟩
set_option maxRecDepth 100000 in
set_option maxHeartbeats 4000000 in
theorem key_w {d g : Nat} {s : PS} {w : World} (h : At g d s w) (h4 : s.next.kind ≠ 4) (h3 : s.next.kind ≠ 3) :
    Calls Tryz.prog 139 #[.pointer (some ⟨g, 0, none⟩)] w (Post g d w (.string (memF s).1) (memF s).2) := by
  obtain ⟨b, o, c, n, k, D, T, ho⟩ := h.opn
  have cn := now_opn h ho
  have hm : s.fault ≠ 0 → memF s = (noS, s) := fun hf => by
    have hl := h.ok.st hf
    have hn : s.next = stopK := by unfold PS.next; rw [hl]; rfl
    unfold memF
    rw [hn, if_neg (by decide)]
    unfold PS.fail
    rw [if_neg hf]
  have hq : ((s.fault != 0) = true ∧ memF s = (noS, s)) ∨ ((s.fault != 0) = false ∧ (T.kind == 4) = false ∧ (T.kind == 3) = false) := by
    by_cases hf : s.fault = 0
    · refine .inr ⟨by rw [hf]; rfl, ?_⟩
      rw [(ho.lv hf).1]
      exact ⟨by simpa using h4, by simpa using h3⟩
    · exact .inl ⟨by simpa using hf, hm hf⟩
  have hx : ∀ W, Below w.heap.size w W → W.cell? ⟨g, 3, none⟩ = some (.int .i64 s.fault) ∧ At g d s W := fun W hb => ⟨(ho.below hb).c3, h.below hb⟩
  have tk0 := fun w : World => ((Blk.new w (kcs T) 73).cell 0).trans (kcs_0 T)
  have s0 := fun w => run_stKg w w.heap.size T zeroK rfl
  have HX := Lib.hid hx
  clear h ho h3 h4 hx hm
  rcases hq with ⟨hq, hm⟩ | ⟨hq, hq2, hq3⟩
  · rw [hm]
    clear hm
    go_enter Tryz.func139, Tryz.ntmps139
    go_wp2_with (go_at_call 36; (with_reducible refine cn.mono ?_); rintro e w1 ⟨rfl, hb⟩; have t0 := tk0 w1; have hb2 := hb.trans ((bel1 (o := .cells (kcs T) 73)).mono hb.size); obtain ⟨z3, zA⟩ := HX.out _ hb2; have HA := Lib.hid zA; have HB := Lib.hid hb2; clear hb hb2 zA)
    go_ret
    exact ⟨rfl, HA.out, GB.of HB.out⟩
  · go_enter Tryz.func139, Tryz.ntmps139
    go_wp2_with (first | (go_at_call 36; (with_reducible refine cn.mono ?_); rintro e w1 ⟨rfl, hb⟩; have t0 := tk0 w1; have hb2 := hb.trans ((bel1 (o := .cells (kcs T) 73)).mono hb.size); obtain ⟨z3, zA⟩ := HX.out _ hb2; have cw := word_any zA; have HB := Lib.hid hb2; clear hb hb2 zA) | (go_at_call 136; (with_reducible refine cw.mono ?_); rintro e w2 ⟨rfl, q1, q2⟩; have HQ2 := Lib.hid (And.intro q1 ((GB.of HB.out).trans q2)); clear q1 q2))
    go_ret
    exact ⟨rfl, HQ2.out⟩
theorem key_any {d g : Nat} {s : PS} {w : World} (h : At g d s w) :
    Calls Tryz.prog 139 #[.pointer (some ⟨g, 0, none⟩)] w (Post g d w (.string (keyF s).1) (keyF s).2) := by
  by_cases h4 : s.next.kind = 4
  · have e : keyF s = (s.next.text, s.take) := by unfold keyF; rw [if_pos (.inr (.inr h4))]
    rw [e]; exact key_4 h h4
  · by_cases h3 : s.next.kind = 3
    · have e : keyF s = (numT s.next.num, s.take) := by unfold keyF; rw [if_neg (by rw [h3]; decide), if_pos h3]
      rw [e]; exact key_3 h h3
    · have e : keyF s = memF s := by
        unfold keyF memF
        by_cases h12 : s.next.kind = 1 ∨ s.next.kind = 2
        · rw [if_pos h12, if_pos (h12.elim .inl (fun h => .inr (.inl h)))]
        · rw [if_neg h12, if_neg (fun h => h12 (h.elim .inl (fun h => h.elim .inr (fun h => absurd h h4)))), if_neg h3]
      rw [e]; exact key_w h h4 h3
end Go.Proofs.YtinoaajohkafmaaGreat.Rp
