/-
  lex.Tokens: the walk.
-/
import Derived.Test.YtlboaldikgonoaaDoorLxTi
namespace Go.Proofs.YtlboaldikgonoaaDoor.Lx
open Go Go.RowKit Go.Maps Go.Proofs.YtlboaldikgonoaaDoor.Uni
set_option linter.unusedVariables false
set_option linter.unusedSimpArgs false
attribute [local go_sem ↓] ldK stK alK bdK bsK
attribute [local irreducible] kcs
attribute [local go_sem] run_alK run_bdK0 run_bdKs run_bdKn run_bdKe run_bsK

theorem ti_ne {w wr : World} {v : Value} {n : Nat} {xs : List Value} {e size g : Nat} (h : wr.ownsRow (w.heap.size + 1) e size v n xs) (hg : g ≤ w.heap.size) : v.ownBlock ≠ some g := fun hk => by have := (h.lt g hk).1; omega

set_option maxRecDepth 100000 in
set_option maxHeartbeats 8000000 in
theorem toks_main (ao : Option Addr) (cp : Nat) (s : ByteArray) (w : World) (hF : Fa w) (h7 : 7 ≤ w.heap.size) (hcv : (convert 25 9 (.slice ao s.size cp)).run Tryd.prog w = .ok (.string s) w) (hl : ¬ 65536 < s.size) (hb : badS s = none) :
    Calls Tryd.prog 12 #[.slice ao s.size cp] w (TokPost s w) := by
  obtain ⟨i0, hi, hz0, hz1, hz2⟩ := info_parts infoK3
  have hund := fun w => und_any s w (by omega)
  rw [hb] at hund
  have hli : (s.size : Int) ≤ 65536 := by omega
  have HF := Lib.hid hF
  have HHB := Lib.hid hb
  have HHL := Lib.hid hl
  clear hF hb
  go_enter Tryd.func12, Tryd.ntmps12
  go_wp2_with (go_at_call 19; refine (hund _).mono ?_; rintro e w1 ⟨rfl, hb1⟩; refine Hid.out ?_)
  refine Lib.hid ?_
  have hr0 : Rd w1 w.heap.size s 0 := (hb1.block w.heap.size (by simp)).trans (heap_alloc_new w _)
  have hbel0 : Below w.heap.size w w1 := ((Below.refl _ w).alloc (Nat.le_refl _) _).trans (hb1.mono (by simp))
  have hsz0 : w.heap.size + 1 ≤ w1.heap.size := by have := hb1.size; simp at this; omega
  have hT0 : ∀ v, v = .slice none 0 0 → TI s w w1 [] 0 (s.size + 1) v := fun v hv => by
    subst hv
    exact ⟨hbel0, hr0, Nat.zero_le _, World.ownsRow_nil _ _ _ _, hsz0, by omega, Nat.le_refl _, by rw [List.drop_zero]; cases lexF (s.size + 1) s.data.toList <;> rfl⟩
  have HT0 := Lib.hid hT0
  clear hb1 hr0 hbel0 hsz0 hT0 hund
  go_wp2
  go_loopw [8] (fun v wr => ∃ done a f, TI s w wr done a f v) (fun _ wr => s.size - posOf w.heap.size wr)
  case atStart => exact ⟨[], 0, s.size + 1, HT0.out _ rfl⟩
  case round =>
    obtain ⟨done, a, f, hT⟩ := hrel
    have hFr := HF.out.later h7 hT.bel
    have hnext := next_any w.heap.size s a wr hT.rd hT.hi (by omega) hFr h7
    have hpos := hT.rd.pos
    obtain ⟨R, hR⟩ : ∃ R, nextF (s.data.toList.drop a) = R := ⟨_, rfl⟩
    rw [hR] at hnext
    obtain ⟨K, hK⟩ : ∃ K, R.tok (atOf s a) = K := ⟨_, rfl⟩
    obtain ⟨ok, hok⟩ : ∃ ok, R.fine = ok := ⟨_, rfl⟩
    have hnx : Calls Tryd.prog 20 #[.pointer (some ⟨w.heap.size, 0, none⟩)] wr fun e w' => e = .returned (.tuple #[.agg (kcs K), .bool ok]) ∧ ∃ b, R.left = s.data.toList.drop b ∧ On w.heap.size s b wr w' := by
      refine hnext.mono fun e w' hp => ?_
      have := gotP_iff.1 hp
      rwa [hK, hok] at this
    have HT := Lib.hid hT
    have HR := Lib.hid hR
    have HK := Lib.hid hK
    have HOK := Lib.hid hok
    have HPS := Lib.hid hpos
    have hlen := hT.len
    have hhi := hT.hi
    obtain ⟨hv1, hv2⟩ := hT.own
    have hown := hT.own
    have hsz := hT.size
    clear hnext hR hK hok hT hFr hv1 hv2 hpos
    cases ok with
    | false =>
      cases R with
      | ok t r => cases HOK.out
      | bad r =>
        clear hown
        go_wp2_with (go_at_call 20; refine hnx.mono ?_; rintro e w2 ⟨rfl, b, hleft, hon⟩; have c1 := hon.2.1.c1; have c1a : ∀ o, (w2.alloc o).cell? ⟨w.heap.size, 1, none⟩ = some (.int .i64 (b : Int)) := (fun o => (hon.2.1.below bel1).c1); have sn := run_stKg w2 w2.heap.size K zeroK rfl; have HLE := Lib.hid hleft; have HON := Lib.hid hon; clear hon hleft)
        go_quiet (fail)
        go_wp2
        go_ret3
        exact ti_bad HT.out HHL.out HHB.out HR.out HLE.out HON.out ((HON.out.2.2.below HT.out.bel (by omega) (Nat.le_refl _)).trans ((below_drewN bel1 _).mono (by have := HON.out.2.2.size; omega))) rfl rfl
    | true =>
      cases R with
      | bad r => cases HOK.out
      | ok t r =>
        go_wp2_with (first | (go_at_call 20; refine hnx.mono ?_; rintro e w2 ⟨rfl, b, hleft, hon⟩; have sn := run_stKg w2 w2.heap.size K zeroK rfl; have lv := run_ldK (blk_newg (w := w2) (g := w2.heap.size) (cs := kcs K) (t := 33) rfl); have hown2 := hown.kept hon.2.2 (.inr (ti_ne hown (Nat.le_refl _))); have hs2 := hon.2.2.size; have hsz2 := Nat.le_trans hsz hs2; have HON := Lib.hid hon; have HLE := Lib.hid hleft; clear hon hleft) | (at_builtin; refine wpList_append_own _ rfl _ _ 27 rfl (w.heap.size + 1) 33 i0 (.agg (kcs zeroK)) 4 40 Tryd.underlying27 hi hz0 hz1 hz2 zeroK_cells (by decide) _ _ _ rfl ((hown2.alloc _).alloc _) ⟨w2.heap.size + 1, 0, none⟩ 1 1 (kcs K).toList rfl (kcs_list K) (new_cells _ _ (by simp) K) (kcs_one' K) (by unfold maxLen; omega) (by omega) (by simp; omega) ?_; intro v5 w5 hown5 hgrow5 _; refine Hid.out ?_))
        refine Lib.hid ?_
        have hrow := fun k hk => (hown2.lt k hk).1
        have hb4 : Below w.heap.size w ((w2.alloc (.cells (kcs K) 33)).alloc (.cells (kcs K) 33)) := (HON.out.2.2.below HT.out.bel (by omega) (Nat.le_refl _)).trans ((bl_alloc bel1).mono (by omega))
        have hb5 : Below w.heap.size w w5 := hb4.grown hgrow5 (by simp; omega) (fun k hk => by have := hrow k hk; omega)
        have hrd5 : Rd w5 w.heap.size s b := by
          have h4 : Rd ((w2.alloc (.cells (kcs K) 33)).alloc (.cells (kcs K) 33)) w.heap.size s b := HON.out.2.1.below (bl_alloc bel1)
          exact (hgrow5.block _ h4.lt (fun e => by have := hrow _ e.symm; omega)).trans h4
        have hK5 : Blk w5 w2.heap.size (kcs K) 33 := by
          have h4 : Blk ((w2.alloc (.cells (kcs K) 33)).alloc (.cells (kcs K) 33)) w2.heap.size (kcs K) 33 := (Blk.new w2 _ _).old _
          exact (hgrow5.block _ h4.lt (fun e => by have := (hown2.lt _ e.symm).2; omega)).trans h4
        have hs5 : w.heap.size + 1 ≤ w5.heap.size := by have := hgrow5.size; simp at this; omega
        have ck := (hK5.cell 0).trans (kcs_0 K)
        have hKk : K.kind = (t.kind : Int) := by rw [← HK.out]; rfl
        have hbh := HON.out.1
        rw [← HK.out] at hown5
        have HW5 := Lib.hid hown5
        have HB5 := Lib.hid hb5
        have HR5 := Lib.hid hrd5
        clear hrow hb4 hb5 hrd5 hK5 hown5 hgrow5 hown2 hown hnx sn lv
        by_cases hk : t.kind = 0
        · have e0 : ((K.kind == 0)) = true := by simp; omega
          go_wp2
          go_ret3
          exact ti_end HT.out HHL.out HHB.out HR.out hk HB5.out HW5.out
        · have e0 : ((K.kind == 0)) = false := by simp; omega
          obtain ⟨⟨f', hT2⟩, hab⟩ := ti_next HT.out HR.out hk HLE.out hbh HB5.out HR5.out hs5 HW5.out
          have HT2 := Lib.hid hT2
          have HAB := Lib.hid hab
          clear hT2 hab
          go_wp2
          go_roundw
          case rel => exact ⟨_, _, _, HT2.out⟩
          case measure => rw [HT2.out.rd.pos, HPS.out]; have := HAB.out; omega

set_option maxRecDepth 100000 in
set_option maxHeartbeats 2000000 in
theorem toks_long (ao : Option Addr) (cp : Nat) (s : ByteArray) (w : World) (hl : 65536 < s.size) (hm : s.size ≤ 9223372036854775807) :
    Calls Tryd.prog 12 #[.slice ao s.size cp] w (TokPost s w) := by
  have e : lexT s = (3, 0, []) := by unfold lexT; rw [if_pos hl]
  have h1 : decide ((65536 : Int) < (s.size : Nat)) = true := by simp; omega
  have HE := Lib.hid e
  clear e hl
  go_enter Tryd.func12, Tryd.ntmps12
  go_wp2
  go_ret3
  refine ⟨.slice none 0 0, by rw [HE.out]; rfl, ?_, Below.refl _ _⟩
  rw [HE.out]
  exact World.ownsRow_nil _ _ _ _

set_option maxRecDepth 100000 in
set_option maxHeartbeats 2000000 in
theorem toks_und (ao : Option Addr) (cp : Nat) (s : ByteArray) (w : World) (hcv : (convert 25 9 (.slice ao s.size cp)).run Tryd.prog w = .ok (.string s) w) (hl : ¬ 65536 < s.size) (i : Nat) (hb : badS s = some i) :
    Calls Tryd.prog 12 #[.slice ao s.size cp] w (TokPost s w) := by
  have e : lexT s = (2, i, []) := by unfold lexT; rw [if_neg hl, hb]
  have hund := fun w => und_any s w (by omega)
  rw [hb] at hund
  have hli : (s.size : Int) ≤ 65536 := by omega
  have HE := Lib.hid e
  clear e hl hb
  go_enter Tryd.func12, Tryd.ntmps12
  go_wp2_with (go_at_call 19; refine (hund _).mono ?_; rintro e w1 ⟨rfl, hb1⟩)
  go_ret3
  refine ⟨.slice none 0 0, by rw [HE.out]; rfl, ?_, bel1.trans (hb1.mono (by simp))⟩
  rw [HE.out]
  exact World.ownsRow_nil _ _ _ _

theorem toks_any (ao : Option Addr) (cp : Nat) (s : ByteArray) (w : World) (hF : Fa w) (h7 : 7 ≤ w.heap.size) (hcv : (convert 25 9 (.slice ao s.size cp)).run Tryd.prog w = .ok (.string s) w) (hm : s.size ≤ 9223372036854775807) :
    Calls Tryd.prog 12 #[.slice ao s.size cp] w (TokPost s w) := by
  by_cases hl : 65536 < s.size
  · exact toks_long ao cp s w hl hm
  · cases hb : badS s with
    | some i => exact toks_und ao cp s w hcv hl i hb
    | none => exact toks_main ao cp s w hF h7 hcv hl hb
end Go.Proofs.YtlboaldikgonoaaDoor.Lx
