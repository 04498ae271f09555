/-
  alive: no room, and some.
-/
import Derived.Test.YtlhgiihooalanaaDoorHpClone
namespace Go.Proofs.YtlhgiihooalanaaDoor.Hp
open Go Go.RowKit Go.Maps Go.Shelf Go.Proofs.YtlhgiihooalanaaDoor.Keys
set_option linter.unusedVariables false
set_option linter.unusedSimpArgs false
attribute [local go_sem ↓] ldE ldT bxT bxO bdO bdT alE alT stE stT
attribute [local irreducible] ecs ncs hcs tcs ocs
attribute [local go_sem] run_bx run_alE run_alT run_bdO run_bdT0 run_bdT1 run_bdT5 tcs_0 tcs_5 tcs_20 tcs_set5 tcs_set20 ocs_24

theorem store_zero (th : Th) (hp : th.props = .slice none 0 0) (ha : th.args = .slice none 0 0) (w : World) : Calls Tryd.prog 15 #[.agg (tcs th)] w (StorePost w th [] []) :=
  store_any th none 0 0 none 0 0 [] [] w hp ha (fun w' _ => collect_nil w') (fun w' _ => clone_nil' w')
set_option maxRecDepth 100000 in
set_option maxHeartbeats 2000000 in
theorem alive_any (w : World) : Calls Tryd.prog 4 #[] w fun e w' => e = .returned (.bool true) ∧ Below w.heap.size w w' := by
  obtain ⟨w1, hw1⟩ : ∃ w1, w.alloc (.cells (hp 0 nilS 0) 51) = w1 := ⟨_, rfl⟩
  obtain ⟨w2, hw2⟩ : ∃ w2, w1.alloc (.cells (hp 1 nilS 0) 51) = w2 := ⟨_, rfl⟩
  have k1 : w1.heap.size = w.heap.size + 1 := by rw [← hw1]; simp
  have b1 : Below w.heap.size w w1 := by rw [← hw1]; exact (Below.refl _ w).alloc (Nat.le_refl _) _
  have b12 : Below w1.heap.size w1 w2 := by rw [← hw2]; exact (Below.refl _ w1).alloc (Nat.le_refl _) _
  have b2 : Below w.heap.size w w2 := b1.trans (b12.mono (by omega))
  have x2 : Blk w2 w.heap.size (hp 0 nilS 0) 51 := by
    have : Blk w1 w.heap.size (hp 0 nilS 0) 51 := by rw [← hw1]; exact Blk.new w _ _
    exact this.call b12
  have y2 : Blk w2 (w.heap.size + 1) (hp 1 nilS 0) 51 := by
    have := Blk.new w1 (hp 1 nilS 0) 51
    rw [hw2, k1] at this
    exact this
  have hmf := make_full w.heap.size 0 none 0 0 0 zeroT w2 x2 (by omega)
  have B2 := Lib.hid b2
  have Y2 := Lib.hid y2
  clear b1 b12 b2 x2 y2
  go_enter Tryd.func4, Tryd.ntmps4
  go_wp2_with (first | (go_at_call 5; refine (new_any _ _).mono ?_; rintro e wz ⟨rfl, rfl⟩) | (go_at_call 6; with_reducible refine hmf.mono ?_; rintro e w3 ⟨rfl, hb3⟩; refine Hid.out ?_))
  refine Lib.hid ?_
  have y3 := Y2.out.call hb3
  have b3 := B2.out.trans (hb3.mono B2.out.size)
  obtain ⟨th, hth⟩ : ∃ th : Th, th = { zeroT with kind := 1 } := ⟨_, rfl⟩
  have hmk := make_any w.heap.size (w.heap.size + 1) 1 none 0 0 0 [] th [] [] w3 y3 (by omega) (World.ownsRow_nil _ _ _ _) (by omega) (by simp) (fun w' _ => store_zero th (by rw [hth]; rfl) (by rw [hth]; rfl) w')
  have hbd := run_bdT1 w3 1
  rw [← hth] at hbd
  have B3 := Lib.hid b3
  have HT := Lib.hid hth
  clear hmf hw1 hw2 hb3 y3 b3 hth
  go_wp2_with (go_at_call 6; refine hmk.mono ?_; rintro e w4 ⟨rfl, g, c, hbk, ob, pb, mb, ns, a, m, c', hrow, hat, hb4, -⟩; refine Hid.out ?_)
  refine Lib.hid ?_
  have hcell : w4.cell? ⟨g, 0, none⟩ = some (ptr ob) := by rw [hrow.cellAt 0 (by omega)]; rfl
  have b4 := B3.out.trans (hb4.mono (Nat.le_refl _))
  have hm0 := hat.row
  obtain ⟨aa2, cc2, hsh⟩ := own_shape hm0
  obtain ⟨rfl, rfl, rfl⟩ : a = aa2 ∧ m = ([] : List Vl).length ∧ c' = cc2 := by simpa using hsh
  have hvs := vsAt_own hm0
  have hget := get_some (w.heap.size + 1) g ob pb mb [].length 1 c 0 w3.heap.size 1 0 _ [] [] ns w4 hbk (by omega) hcell hat (by simp) (by simp) a 0 c' rfl (fun w' hb => clone_any a 0 c' [] w' rfl (by omega) ((hvs.below hb).mono hb.size))
  have hget2 : Calls Tryd.prog 14 #[ptr (w.heap.size + 1), .int .i64 0] w4 fun e w' => ∃ t' : Th, e = .returned (.tuple #[.agg (tcs t'), .bool true]) ∧ t'.kind = 1 ∧ t'.ok ∧ Below w4.heap.size w4 w' := by
    refine hget.mono ?_
    rintro e w5 ⟨a5, c5, a6, c6, rfl, -, -, hb5⟩
    exact ⟨_, rfl, by rw [HT.out], ⟨⟨_, _, _, rfl⟩, ⟨_, _, _, rfl⟩⟩, hb5⟩
  have HB4 := Lib.hid b4
  clear hcell b4 hm0 hsh hvs hat hrow hbk hb4 hmk hbd hget HT
  go_wp2_with (go_at_call 14; refine hget2.mono ?_; rintro e w5 ⟨t', rfl, hkind, htok, hb5⟩; refine Hid.out ?_)
  refine Lib.hid ?_
  have b5 := HB4.out.trans (hb5.mono HB4.out.size)
  have hst := run_stT w5 t' zeroT htok
  have hc0 := (Blk.new w5 (tcs t') 33).cell 0
  rw [tcs_0, hkind] at hc0
  have B5 := Lib.hid b5
  clear b5 hb5 hget2 htok hkind
  go_wp2
  go_ret
  exact ⟨rfl, B5.out.alloc B5.out.size _⟩
end Go.Proofs.YtlhgiihooalanaaDoor.Hp
