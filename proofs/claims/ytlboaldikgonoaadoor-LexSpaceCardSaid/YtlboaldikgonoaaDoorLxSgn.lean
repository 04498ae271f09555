/-
  reader.sign.
-/
import Derived.Test.YtlboaldikgonoaaDoorLxName
namespace Go.Proofs.YtlboaldikgonoaaDoor.Lx
open Go Go.RowKit Go.Proofs.YtlboaldikgonoaaDoor.Uni
set_option linter.unusedVariables false
set_option linter.unusedSimpArgs false
attribute [local go_sem ↓] ldK stK alK bdK
attribute [local irreducible] kcs
attribute [local go_sem] run_alK run_bdK0 run_bdKs run_bdKn run_bdKe

theorem rng_keep {w w' : World} {b : Nat} {cs : List Value} (h : w.rangeAt b 0 cs) (hb : Below w.heap.size w w') : w'.rangeAt b 0 cs := fun j v hj => cell_keep (h j v hj) (fun hl => hb.block _ hl)
theorem blk_newg {w : World} {g : Nat} {cs : Array Value} {t : TypeId} (hg : g = w.heap.size) : Blk (w.alloc (.cells cs t)) g cs t := by
  subst hg
  exact Blk.new w cs t

set_option maxRecDepth 100000 in
set_option maxHeartbeats 4000000 in
theorem sgn_any (g : Nat) (t : ByteArray) (a : Nat) (w : World) (hr : Rd w g t a) (ha : a ≤ t.size) (ht : t.size ≤ 1000000) (hF : w.rangeAt 0 0 sgL) :
    Calls Tryd.prog 33 #[.pointer (some ⟨g, 0, none⟩)] w (GotP g t a w (signT (t.data.toList.drop a))) := by
  obtain ⟨l, hl⟩ : ∃ l, t.data.toList.drop a = l := ⟨_, rfl⟩
  have hlen : a + l.length = t.size := by rw [← hl, List.length_drop, lsz]; omega
  have hrest := fun (w' : World) (hb : Below w.heap.size w w') => rest_any g t a w' (hr.below hb) ha ht
  have hsign := fun (w' : World) (hb : Below w.heap.size w w') => sign_any (bs l) w' (rng_keep hF hb)
  rw [bs_list] at hsign
  rw [hl] at hrest ⊢
  have hgl := hr.lt
  have hneT : g ≠ w.heap.size := by omega
  have tN : ∀ n, Blk ((w.alloc (.cells (kcs zeroK) 33)).drewN n) w.heap.size (kcs zeroK) 33 := fun n => Blk.drewN (Blk.new w _ _) n
  have bN : ∀ n, Below w.heap.size w ((w.alloc (.cells (kcs zeroK) 33)).drewN n) := fun n => bl_drewN bel1
  have kN : ∀ n, ((w.alloc (.cells (kcs zeroK) 33)).drewN n).heap.size = w.heap.size + 1 := fun n => by show (w.alloc _).heap.size = _; simp
  have HL := Lib.hid hl
  have HR := Lib.hid hr
  clear hl hr hF
  unfold signT
  cases hsf : signF l with
  | none =>
    rw [hsf] at hsign
    clear hsf
    go_enter Tryd.func33, Tryd.ntmps33
    go_wp2_with (first | (go_at_call 27; refine (hrest _ (by repeat (first | (with_reducible exact Below.refl _ _) | (with_reducible assumption) | with_reducible apply bl_alloc | with_reducible apply bl_drew | with_reducible apply bl_drewN))).mono ?_; rintro e w1 ⟨rfl, n1, rfl⟩) | (go_at_call 45; refine (hsign _ (by repeat (first | (with_reducible exact Below.refl _ _) | (with_reducible assumption) | with_reducible apply bl_alloc | with_reducible apply bl_drew | with_reducible apply bl_drewN))).mono ?_; rintro e w2 ⟨rfl, rfl⟩; rw [Option.getD_none, Option.isSome_none]; refine Hid.out ?_))
    refine Lib.hid ?_
    have bW := bN n1
    have tW := tN n1
    generalize ((w.alloc (.cells (kcs zeroK) 33)).drewN n1) = W at bW tW ⊢
    have sv := run_stK (t := zeroK) tW
    have BW := Lib.hid bW
    have TW := Lib.hid tW
    clear bW tW bN tN kN hrest hsign
    go_wp2
    refine bodyPost_ret (res_K rfl _ _ w.heap.size zeroK _ rfl rfl (TW.out.row _)) rfl ?_
    exact ⟨rfl, a, HL.out.symm, ha, (HR.out.below BW.out).row _ hneT, (GB.of BW.out).row _ (Nat.le_refl _)⟩
  | some s =>
    have hsl : s.length ≤ l.length := by
      unfold signF at hsf
      have := List.find?_some hsf
      unfold Lib.hasPrefix at this
      exact (List.isPrefixOf_iff_prefix.1 this).length_le
    rw [hsf] at hsign
    obtain ⟨u, hu⟩ : ∃ u, bs s = u := ⟨_, rfl⟩
    have huz : u.size = s.length := by rw [← hu, bs_size]
    rw [Option.getD_some, Option.isSome_some, hu] at hsign
    have HU := Lib.hid hu
    have HZ := Lib.hid huz
    have hai : (a : Int) ≤ 1000000 := by omega
    have hsi : (u.size : Int) ≤ 1000000 := by omega
    clear hsf hu huz
    go_enter Tryd.func33, Tryd.ntmps33
    go_wp2_with (first | (go_at_call 27; refine (hrest _ (by repeat (first | (with_reducible exact Below.refl _ _) | (with_reducible assumption) | with_reducible apply bl_alloc | with_reducible apply bl_drew | with_reducible apply bl_drewN))).mono ?_; rintro e w1 ⟨rfl, n1, rfl⟩) | (go_at_call 45; refine (hsign _ (by repeat (first | (with_reducible exact Below.refl _ _) | (with_reducible assumption) | with_reducible apply bl_alloc | with_reducible apply bl_drew | with_reducible apply bl_drewN))).mono ?_; rintro e w2 ⟨rfl, rfl⟩; refine Hid.out ?_))
    refine Lib.hid ?_
    have bW := bN n1
    have tW := tN n1
    have kW := kN n1
    generalize ((w.alloc (.cells (kcs zeroK) 33)).drewN n1) = W at bW tW kW ⊢
    have rW := HR.out.below bW
    have c1 := rW.c1
    have f1 := rW.f1
    have hgW := rW.lt
    have c1a : ∀ o, (W.alloc o).cell? ⟨g, 1, none⟩ = some (.int .i64 (a : Int)) := fun o => (rW.below bel1).c1
    have f1a : ∀ o, (W.alloc o).frozen? ⟨g, 1, none⟩ = false := fun o => (rW.below bel1).f1
    have sn := run_stKg W W.heap.size ⟨5, a, 0, u⟩ zeroK rfl
    have lv := run_ldK (blk_newg (w := W.setCell ⟨g, 1, none⟩ (.int .i64 ((a : Int) + u.size))) (g := W.heap.size) (cs := kcs ⟨5, a, 0, u⟩) (t := 33) (by simp [World.setCell]))
    have tX : Blk ((W.setCell ⟨g, 1, none⟩ (.int .i64 ((a : Int) + u.size))).alloc (.cells (kcs ⟨5, a, 0, u⟩) 33)) w.heap.size (kcs zeroK) 33 := (tW.other _ _ (by simpa using hneT.symm)).old _
    have sv := run_stK (t := ⟨5, a, 0, u⟩) tX
    rw [kW] at sn lv
    have BW := Lib.hid bW
    have TX := Lib.hid tX
    have RW := Lib.hid rW
    clear bW tW bN tN kN hrest hsign tX rW
    go_wp2
    refine bodyPost_ret (res_K rfl _ _ w.heap.size ⟨5, a, 0, u⟩ _ rfl rfl (TX.out.row _)) rfl ?_
    refine ⟨by rw [← HU.out]; rfl, a + u.size, ?_, by have := HZ.out; omega, ?_, ?_⟩
    · rw [← HL.out, List.drop_drop, HZ.out]
    · exact (((RW.out.set (by omega)).below bel1)).row _ hneT
    · exact (((GB.of BW.out).trans (GB.set _ _ _)).trans (GB.of bel1)).row _ (Nat.le_refl _)
end Go.Proofs.YtlboaldikgonoaaDoor.Lx
