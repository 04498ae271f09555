/-
  EarlyWrong: the walk, the other half.
-/
import Derived.Test.YtinoaajohkafmaaGreatMw32
import Derived.Test.YtinoaajohkafmaaGreatMw33
import Derived.Lib.SlBytesRow
import Derived.Lib.ConvBytes
import Derived.Deep.RegionHeld3
namespace Go.Proofs.YtinoaajohkafmaaGreat.Ey
open Go Go.RowKit Go.Maps Go.Proofs.YtinoaajohkafmaaGreat.Pa Go.Proofs.YtinoaajohkafmaaGreat.Pr
open Go.Proofs.YtinoaajohkafmaaGreat.Lx
set_option linter.unusedVariables false
set_option linter.unusedSimpArgs false
attribute [local go_sem ↓] ldK stK alK bdK bsK ldN stN alN bdN bsN
attribute [local irreducible] kcs ncs ncells
attribute [local go_sem] run_alN run_stNg run_ldNg run_bdN0
set_option maxRecDepth 100000 in
set_option maxHeartbeats 4000000 in
theorem wrong_10 (w : World) : Calls Tryz.prog 5 #[.int .i64 10] w (PostR w (.bool true)) := by
  have hal := alive_any w
  have hsz : tx10.size = 24 := rfl
  have hcv := fun w : World => Lib.run_convert_string_bytes (P := Tryz.prog) w 9 33 5 tx10 Tryz.underlying9 Tryz.underlying33 Tryz.underlying5
  have hp := fun (c : Nat) (w : World) => rp_txt tx10_ok c w
  have hc := fun (N : Nd) (w : World) (hr : Pr.Rd w (treeF ((lexO tx10 80 0).getD [])).1 N) => chk_txt tx10_ok hr
  obtain ⟨T, hT⟩ : ∃ T, (treeF ((lexO tx10 80 0).getD [])).1 = T := ⟨_, rfl⟩
  rw [hT] at hp hc
  rw [hsz] at hp hcv
  unfold tx10 at hp hcv
  have HP := Lib.hid hp
  have HC := Lib.hid hc
  clear hp hc hT
  go_enter Tryz.func5, Tryz.ntmps5
  go_wp2_with (first | (go_at_call 7; (with_reducible refine hal.mono ?_); rintro e w1 ⟨rfl, hb1⟩; have HB1 := Lib.hid hb1; clear hb1) | (go_at_call 12; refine Hid.out ?_))
  refine Lib.hid ?_
  obtain ⟨w2, hw2⟩ : ∃ w2, w2 = (w1.alloc (.cells wS 9)).alloc (.cells wI 3) := ⟨_, rfl⟩
  have hs2 : w2.heap.size = w1.heap.size + 2 := by rw [hw2]; simp
  have hb2 : Below w1.heap.size w1 w2 := by rw [hw2]; exact bel1.trans (bel1.mono (by simp))
  have hcell : w2.cell? ⟨w1.heap.size + 1, 10, none⟩ = some (.int .i64 2) := by
    have hg : w2.heap[w1.heap.size + 1]? = some (.cells wI 3) := by
      rw [hw2]
      have := heap_alloc_new (w1.alloc (.cells wS 9)) (.cells wI 3)
      simpa using this
    simp only [World.cell?, hg]
    rfl
  have h := HP.out (grownCap w2 24 0 5) w2
  rw [hs2] at h
  rw [hw2] at h
  with_reducible refine h.mono ?_
  rintro e w3 ⟨N, rfl, hr, hb3⟩
  rw [← hw2, ← hs2] at hb3
  clear h hw2 hcv HP
  have bN := Blk.new w3 (ncs N) 25
  have hbx : Below w3.heap.size w3 (w3.alloc (.cells (ncs N) 25)) := bel1
  have hb4 : Below w2.heap.size w2 (w3.alloc (.cells (ncs N) 25)) := hb3.trans (hbx.mono hb3.size)
  have hb5 : Below w1.heap.size w1 (w3.alloc (.cells (ncs N) 25)) := hb2.trans (hb4.mono hb2.size)
  have d1 : ∀ W, Below (w3.alloc (.cells (ncs N) 25)).heap.size (w3.alloc (.cells (ncs N) 25)) W → Calls Tryz.prog 10 #[.agg (ncs N)] W (PostR W (.int .i64 2)) := fun W hb => HC.out N W (hr.below (hbx.trans (hb.mono hbx.size)))
  have d3 : ∀ W, Below (w3.alloc (.cells (ncs N) 25)).heap.size (w3.alloc (.cells (ncs N) 25)) W → Calls Tryz.prog 9 #[.int .i64 2] W (PostR W (.int .i64 2)) := fun W hb => (num_any 2 W).mono fun e w' ⟨h1, h2⟩ => ⟨h1, by rw [h2]; exact Below.refl _ _⟩
  have HSx : Hid (∀ W, Below (w3.alloc (.cells (ncs N) 25)).heap.size (w3.alloc (.cells (ncs N) 25)) W → (Below (w3.alloc (.cells (ncs N) 25)).heap.size (w3.alloc (.cells (ncs N) 25)) W ∧ W.cell? ⟨w1.heap.size + 1, 10, none⟩ = some (.int .i64 2) ∧ (Ld 25 (.pointer (some ⟨w3.heap.size, 0, none⟩))).run Tryz.prog W = .ok (.agg (ncs N)) W)) := Lib.hid fun W hb => ⟨hb, kept_cell (kept_below (hb4.trans (hb.mono hb4.size))) (by omega) hcell, run_ldN (bN.call hb)⟩
  have c0 := (HSx.out _ (Below.refl _ _)).2.1
  have l1 := (HSx.out _ (Below.refl _ _)).2.2
  have HB5 := Lib.hid (HB1.out.trans (hb5.mono HB1.out.size))
  clear hr hb3 hbx hb4 hb5 bN hcell hb2 hs2
  go_wp2
  go_region_held3 (fun W => Below (w3.alloc (.cells (ncs N) 25)).heap.size (w3.alloc (.cells (ncs N) 25)) W ∧ W.cell? ⟨w1.heap.size + 1, 10, none⟩ = some (.int .i64 2) ∧ (Ld 25 (.pointer (some ⟨w3.heap.size, 0, none⟩))).run Tryz.prog W = .ok (.agg (ncs N)) W)
    (first | exact HSx.out _ (Below.refl _ _).drew | (go_split_ands; exact HSx.out _ (bel_tr (by assumption) (by assumption))))
    ((go_split_ands; first | (go_at_call 10; (with_reducible refine (d1 _ (by assumption)).mono ?_); intro e w4 hp; obtain ⟨rfl, hb⟩ := hp) | (go_at_call 9; (with_reducible refine (d3 _ (by assumption)).mono ?_); intro e w4 hp; obtain ⟨rfl, hb⟩ := hp)))
  go_split_ands
  go_wp2
  go_ret
  exact ⟨rfl, HB5.out.trans (Below.mono (by assumption) HB5.out.size)⟩
set_option maxRecDepth 100000 in
set_option maxHeartbeats 4000000 in
theorem wrong_11 (w : World) : Calls Tryz.prog 5 #[.int .i64 11] w (PostR w (.bool true)) := by
  have hal := alive_any w
  have hsz : tx11.size = 28 := rfl
  have hcv := fun w : World => Lib.run_convert_string_bytes (P := Tryz.prog) w 9 33 5 tx11 Tryz.underlying9 Tryz.underlying33 Tryz.underlying5
  have hp := fun (c : Nat) (w : World) => rp_txt tx11_ok c w
  have hc := fun (N : Nd) (w : World) (hr : Pr.Rd w (treeF ((lexO tx11 80 0).getD [])).1 N) => chk_txt tx11_ok hr
  obtain ⟨T, hT⟩ : ∃ T, (treeF ((lexO tx11 80 0).getD [])).1 = T := ⟨_, rfl⟩
  rw [hT] at hp hc
  rw [hsz] at hp hcv
  unfold tx11 at hp hcv
  have HP := Lib.hid hp
  have HC := Lib.hid hc
  clear hp hc hT
  go_enter Tryz.func5, Tryz.ntmps5
  go_wp2_with (first | (go_at_call 7; (with_reducible refine hal.mono ?_); rintro e w1 ⟨rfl, hb1⟩; have HB1 := Lib.hid hb1; clear hb1) | (go_at_call 12; refine Hid.out ?_))
  refine Lib.hid ?_
  obtain ⟨w2, hw2⟩ : ∃ w2, w2 = (w1.alloc (.cells wS 9)).alloc (.cells wI 3) := ⟨_, rfl⟩
  have hs2 : w2.heap.size = w1.heap.size + 2 := by rw [hw2]; simp
  have hb2 : Below w1.heap.size w1 w2 := by rw [hw2]; exact bel1.trans (bel1.mono (by simp))
  have hcell : w2.cell? ⟨w1.heap.size + 1, 11, none⟩ = some (.int .i64 0) := by
    have hg : w2.heap[w1.heap.size + 1]? = some (.cells wI 3) := by
      rw [hw2]
      have := heap_alloc_new (w1.alloc (.cells wS 9)) (.cells wI 3)
      simpa using this
    simp only [World.cell?, hg]
    rfl
  have h := HP.out (grownCap w2 28 0 5) w2
  rw [hs2] at h
  rw [hw2] at h
  with_reducible refine h.mono ?_
  rintro e w3 ⟨N, rfl, hr, hb3⟩
  rw [← hw2, ← hs2] at hb3
  clear h hw2 hcv HP
  have bN := Blk.new w3 (ncs N) 25
  have hbx : Below w3.heap.size w3 (w3.alloc (.cells (ncs N) 25)) := bel1
  have hb4 : Below w2.heap.size w2 (w3.alloc (.cells (ncs N) 25)) := hb3.trans (hbx.mono hb3.size)
  have hb5 : Below w1.heap.size w1 (w3.alloc (.cells (ncs N) 25)) := hb2.trans (hb4.mono hb2.size)
  have d1 : ∀ W, Below (w3.alloc (.cells (ncs N) 25)).heap.size (w3.alloc (.cells (ncs N) 25)) W → Calls Tryz.prog 10 #[.agg (ncs N)] W (PostR W (.int .i64 0)) := fun W hb => HC.out N W (hr.below (hbx.trans (hb.mono hbx.size)))
  have d3 : ∀ W, Below (w3.alloc (.cells (ncs N) 25)).heap.size (w3.alloc (.cells (ncs N) 25)) W → Calls Tryz.prog 9 #[.int .i64 0] W (PostR W (.int .i64 0)) := fun W hb => (num_any 0 W).mono fun e w' ⟨h1, h2⟩ => ⟨h1, by rw [h2]; exact Below.refl _ _⟩
  have HSx : Hid (∀ W, Below (w3.alloc (.cells (ncs N) 25)).heap.size (w3.alloc (.cells (ncs N) 25)) W → (Below (w3.alloc (.cells (ncs N) 25)).heap.size (w3.alloc (.cells (ncs N) 25)) W ∧ W.cell? ⟨w1.heap.size + 1, 11, none⟩ = some (.int .i64 0) ∧ (Ld 25 (.pointer (some ⟨w3.heap.size, 0, none⟩))).run Tryz.prog W = .ok (.agg (ncs N)) W)) := Lib.hid fun W hb => ⟨hb, kept_cell (kept_below (hb4.trans (hb.mono hb4.size))) (by omega) hcell, run_ldN (bN.call hb)⟩
  have c0 := (HSx.out _ (Below.refl _ _)).2.1
  have l1 := (HSx.out _ (Below.refl _ _)).2.2
  have HB5 := Lib.hid (HB1.out.trans (hb5.mono HB1.out.size))
  clear hr hb3 hbx hb4 hb5 bN hcell hb2 hs2
  go_wp2
  go_region_held3 (fun W => Below (w3.alloc (.cells (ncs N) 25)).heap.size (w3.alloc (.cells (ncs N) 25)) W ∧ W.cell? ⟨w1.heap.size + 1, 11, none⟩ = some (.int .i64 0) ∧ (Ld 25 (.pointer (some ⟨w3.heap.size, 0, none⟩))).run Tryz.prog W = .ok (.agg (ncs N)) W)
    (first | exact HSx.out _ (Below.refl _ _).drew | (go_split_ands; exact HSx.out _ (bel_tr (by assumption) (by assumption))))
    ((go_split_ands; first | (go_at_call 10; (with_reducible refine (d1 _ (by assumption)).mono ?_); intro e w4 hp; obtain ⟨rfl, hb⟩ := hp) | (go_at_call 9; (with_reducible refine (d3 _ (by assumption)).mono ?_); intro e w4 hp; obtain ⟨rfl, hb⟩ := hp)))
  go_split_ands
  go_wp2
  go_ret
  exact ⟨rfl, HB5.out.trans (Below.mono (by assumption) HB5.out.size)⟩
set_option maxRecDepth 100000 in
set_option maxHeartbeats 4000000 in
theorem wrong_12 (w : World) : Calls Tryz.prog 5 #[.int .i64 12] w (PostR w (.bool true)) := by
  have hal := alive_any w
  have hsz : tx12.size = 28 := rfl
  have hcv := fun w : World => Lib.run_convert_string_bytes (P := Tryz.prog) w 9 33 5 tx12 Tryz.underlying9 Tryz.underlying33 Tryz.underlying5
  have hp := fun (c : Nat) (w : World) => rp_txt tx12_ok c w
  have hc := fun (N : Nd) (w : World) (hr : Pr.Rd w (treeF ((lexO tx12 80 0).getD [])).1 N) => chk_txt tx12_ok hr
  obtain ⟨T, hT⟩ : ∃ T, (treeF ((lexO tx12 80 0).getD [])).1 = T := ⟨_, rfl⟩
  rw [hT] at hp hc
  rw [hsz] at hp hcv
  unfold tx12 at hp hcv
  have HP := Lib.hid hp
  have HC := Lib.hid hc
  clear hp hc hT
  go_enter Tryz.func5, Tryz.ntmps5
  go_wp2_with (first | (go_at_call 7; (with_reducible refine hal.mono ?_); rintro e w1 ⟨rfl, hb1⟩; have HB1 := Lib.hid hb1; clear hb1) | (go_at_call 12; refine Hid.out ?_))
  refine Lib.hid ?_
  obtain ⟨w2, hw2⟩ : ∃ w2, w2 = (w1.alloc (.cells wS 9)).alloc (.cells wI 3) := ⟨_, rfl⟩
  have hs2 : w2.heap.size = w1.heap.size + 2 := by rw [hw2]; simp
  have hb2 : Below w1.heap.size w1 w2 := by rw [hw2]; exact bel1.trans (bel1.mono (by simp))
  have hcell : w2.cell? ⟨w1.heap.size + 1, 12, none⟩ = some (.int .i64 0) := by
    have hg : w2.heap[w1.heap.size + 1]? = some (.cells wI 3) := by
      rw [hw2]
      have := heap_alloc_new (w1.alloc (.cells wS 9)) (.cells wI 3)
      simpa using this
    simp only [World.cell?, hg]
    rfl
  have h := HP.out (grownCap w2 28 0 5) w2
  rw [hs2] at h
  rw [hw2] at h
  with_reducible refine h.mono ?_
  rintro e w3 ⟨N, rfl, hr, hb3⟩
  rw [← hw2, ← hs2] at hb3
  clear h hw2 hcv HP
  have bN := Blk.new w3 (ncs N) 25
  have hbx : Below w3.heap.size w3 (w3.alloc (.cells (ncs N) 25)) := bel1
  have hb4 : Below w2.heap.size w2 (w3.alloc (.cells (ncs N) 25)) := hb3.trans (hbx.mono hb3.size)
  have hb5 : Below w1.heap.size w1 (w3.alloc (.cells (ncs N) 25)) := hb2.trans (hb4.mono hb2.size)
  have d1 : ∀ W, Below (w3.alloc (.cells (ncs N) 25)).heap.size (w3.alloc (.cells (ncs N) 25)) W → Calls Tryz.prog 10 #[.agg (ncs N)] W (PostR W (.int .i64 0)) := fun W hb => HC.out N W (hr.below (hbx.trans (hb.mono hbx.size)))
  have d3 : ∀ W, Below (w3.alloc (.cells (ncs N) 25)).heap.size (w3.alloc (.cells (ncs N) 25)) W → Calls Tryz.prog 9 #[.int .i64 0] W (PostR W (.int .i64 0)) := fun W hb => (num_any 0 W).mono fun e w' ⟨h1, h2⟩ => ⟨h1, by rw [h2]; exact Below.refl _ _⟩
  have HSx : Hid (∀ W, Below (w3.alloc (.cells (ncs N) 25)).heap.size (w3.alloc (.cells (ncs N) 25)) W → (Below (w3.alloc (.cells (ncs N) 25)).heap.size (w3.alloc (.cells (ncs N) 25)) W ∧ W.cell? ⟨w1.heap.size + 1, 12, none⟩ = some (.int .i64 0) ∧ (Ld 25 (.pointer (some ⟨w3.heap.size, 0, none⟩))).run Tryz.prog W = .ok (.agg (ncs N)) W)) := Lib.hid fun W hb => ⟨hb, kept_cell (kept_below (hb4.trans (hb.mono hb4.size))) (by omega) hcell, run_ldN (bN.call hb)⟩
  have c0 := (HSx.out _ (Below.refl _ _)).2.1
  have l1 := (HSx.out _ (Below.refl _ _)).2.2
  have HB5 := Lib.hid (HB1.out.trans (hb5.mono HB1.out.size))
  clear hr hb3 hbx hb4 hb5 bN hcell hb2 hs2
  go_wp2
  go_region_held3 (fun W => Below (w3.alloc (.cells (ncs N) 25)).heap.size (w3.alloc (.cells (ncs N) 25)) W ∧ W.cell? ⟨w1.heap.size + 1, 12, none⟩ = some (.int .i64 0) ∧ (Ld 25 (.pointer (some ⟨w3.heap.size, 0, none⟩))).run Tryz.prog W = .ok (.agg (ncs N)) W)
    (first | exact HSx.out _ (Below.refl _ _).drew | (go_split_ands; exact HSx.out _ (bel_tr (by assumption) (by assumption))))
    ((go_split_ands; first | (go_at_call 10; (with_reducible refine (d1 _ (by assumption)).mono ?_); intro e w4 hp; obtain ⟨rfl, hb⟩ := hp) | (go_at_call 9; (with_reducible refine (d3 _ (by assumption)).mono ?_); intro e w4 hp; obtain ⟨rfl, hb⟩ := hp)))
  go_split_ands
  go_wp2
  go_ret
  exact ⟨rfl, HB5.out.trans (Below.mono (by assumption) HB5.out.size)⟩
set_option maxRecDepth 100000 in
set_option maxHeartbeats 4000000 in
theorem wrong_13 (w : World) : Calls Tryz.prog 5 #[.int .i64 13] w (PostR w (.bool true)) := by
  have hal := alive_any w
  have hsz : tx13.size = 13 := rfl
  have hcv := fun w : World => Lib.run_convert_string_bytes (P := Tryz.prog) w 9 33 5 tx13 Tryz.underlying9 Tryz.underlying33 Tryz.underlying5
  have hp := fun (c : Nat) (w : World) => rp_txt tx13_ok c w
  have hc := fun (N : Nd) (w : World) (hr : Pr.Rd w (treeF ((lexO tx13 80 0).getD [])).1 N) => chk_txt tx13_ok hr
  obtain ⟨T, hT⟩ : ∃ T, (treeF ((lexO tx13 80 0).getD [])).1 = T := ⟨_, rfl⟩
  rw [hT] at hp hc
  rw [hsz] at hp hcv
  unfold tx13 at hp hcv
  have HP := Lib.hid hp
  have HC := Lib.hid hc
  clear hp hc hT
  go_enter Tryz.func5, Tryz.ntmps5
  go_wp2_with (first | (go_at_call 7; (with_reducible refine hal.mono ?_); rintro e w1 ⟨rfl, hb1⟩; have HB1 := Lib.hid hb1; clear hb1) | (go_at_call 12; refine Hid.out ?_))
  refine Lib.hid ?_
  obtain ⟨w2, hw2⟩ : ∃ w2, w2 = (w1.alloc (.cells wS 9)).alloc (.cells wI 3) := ⟨_, rfl⟩
  have hs2 : w2.heap.size = w1.heap.size + 2 := by rw [hw2]; simp
  have hb2 : Below w1.heap.size w1 w2 := by rw [hw2]; exact bel1.trans (bel1.mono (by simp))
  have hcell : w2.cell? ⟨w1.heap.size + 1, 13, none⟩ = some (.int .i64 2) := by
    have hg : w2.heap[w1.heap.size + 1]? = some (.cells wI 3) := by
      rw [hw2]
      have := heap_alloc_new (w1.alloc (.cells wS 9)) (.cells wI 3)
      simpa using this
    simp only [World.cell?, hg]
    rfl
  have h := HP.out (grownCap w2 13 0 5) w2
  rw [hs2] at h
  rw [hw2] at h
  with_reducible refine h.mono ?_
  rintro e w3 ⟨N, rfl, hr, hb3⟩
  rw [← hw2, ← hs2] at hb3
  clear h hw2 hcv HP
  have bN := Blk.new w3 (ncs N) 25
  have hbx : Below w3.heap.size w3 (w3.alloc (.cells (ncs N) 25)) := bel1
  have hb4 : Below w2.heap.size w2 (w3.alloc (.cells (ncs N) 25)) := hb3.trans (hbx.mono hb3.size)
  have hb5 : Below w1.heap.size w1 (w3.alloc (.cells (ncs N) 25)) := hb2.trans (hb4.mono hb2.size)
  have d1 : ∀ W, Below (w3.alloc (.cells (ncs N) 25)).heap.size (w3.alloc (.cells (ncs N) 25)) W → Calls Tryz.prog 10 #[.agg (ncs N)] W (PostR W (.int .i64 2)) := fun W hb => HC.out N W (hr.below (hbx.trans (hb.mono hbx.size)))
  have d3 : ∀ W, Below (w3.alloc (.cells (ncs N) 25)).heap.size (w3.alloc (.cells (ncs N) 25)) W → Calls Tryz.prog 9 #[.int .i64 2] W (PostR W (.int .i64 2)) := fun W hb => (num_any 2 W).mono fun e w' ⟨h1, h2⟩ => ⟨h1, by rw [h2]; exact Below.refl _ _⟩
  have HSx : Hid (∀ W, Below (w3.alloc (.cells (ncs N) 25)).heap.size (w3.alloc (.cells (ncs N) 25)) W → (Below (w3.alloc (.cells (ncs N) 25)).heap.size (w3.alloc (.cells (ncs N) 25)) W ∧ W.cell? ⟨w1.heap.size + 1, 13, none⟩ = some (.int .i64 2) ∧ (Ld 25 (.pointer (some ⟨w3.heap.size, 0, none⟩))).run Tryz.prog W = .ok (.agg (ncs N)) W)) := Lib.hid fun W hb => ⟨hb, kept_cell (kept_below (hb4.trans (hb.mono hb4.size))) (by omega) hcell, run_ldN (bN.call hb)⟩
  have c0 := (HSx.out _ (Below.refl _ _)).2.1
  have l1 := (HSx.out _ (Below.refl _ _)).2.2
  have HB5 := Lib.hid (HB1.out.trans (hb5.mono HB1.out.size))
  clear hr hb3 hbx hb4 hb5 bN hcell hb2 hs2
  go_wp2
  go_region_held3 (fun W => Below (w3.alloc (.cells (ncs N) 25)).heap.size (w3.alloc (.cells (ncs N) 25)) W ∧ W.cell? ⟨w1.heap.size + 1, 13, none⟩ = some (.int .i64 2) ∧ (Ld 25 (.pointer (some ⟨w3.heap.size, 0, none⟩))).run Tryz.prog W = .ok (.agg (ncs N)) W)
    (first | exact HSx.out _ (Below.refl _ _).drew | (go_split_ands; exact HSx.out _ (bel_tr (by assumption) (by assumption))))
    ((go_split_ands; first | (go_at_call 10; (with_reducible refine (d1 _ (by assumption)).mono ?_); intro e w4 hp; obtain ⟨rfl, hb⟩ := hp) | (go_at_call 9; (with_reducible refine (d3 _ (by assumption)).mono ?_); intro e w4 hp; obtain ⟨rfl, hb⟩ := hp)))
  go_split_ands
  go_wp2
  go_ret
  exact ⟨rfl, HB5.out.trans (Below.mono (by assumption) HB5.out.size)⟩
set_option maxRecDepth 100000 in
set_option maxHeartbeats 4000000 in
theorem wrong_14 (w : World) : Calls Tryz.prog 5 #[.int .i64 14] w (PostR w (.bool true)) := by
  have hal := alive_any w
  have hsz : tx14.size = 22 := rfl
  have hcv := fun w : World => Lib.run_convert_string_bytes (P := Tryz.prog) w 9 33 5 tx14 Tryz.underlying9 Tryz.underlying33 Tryz.underlying5
  have hp := fun (c : Nat) (w : World) => rp_txt tx14_ok c w
  have hc := fun (N : Nd) (w : World) (hr : Pr.Rd w (treeF ((lexO tx14 80 0).getD [])).1 N) => chk_txt tx14_ok hr
  obtain ⟨T, hT⟩ : ∃ T, (treeF ((lexO tx14 80 0).getD [])).1 = T := ⟨_, rfl⟩
  rw [hT] at hp hc
  rw [hsz] at hp hcv
  unfold tx14 at hp hcv
  have HP := Lib.hid hp
  have HC := Lib.hid hc
  clear hp hc hT
  go_enter Tryz.func5, Tryz.ntmps5
  go_wp2_with (first | (go_at_call 7; (with_reducible refine hal.mono ?_); rintro e w1 ⟨rfl, hb1⟩; have HB1 := Lib.hid hb1; clear hb1) | (go_at_call 12; refine Hid.out ?_))
  refine Lib.hid ?_
  obtain ⟨w2, hw2⟩ : ∃ w2, w2 = (w1.alloc (.cells wS 9)).alloc (.cells wI 3) := ⟨_, rfl⟩
  have hs2 : w2.heap.size = w1.heap.size + 2 := by rw [hw2]; simp
  have hb2 : Below w1.heap.size w1 w2 := by rw [hw2]; exact bel1.trans (bel1.mono (by simp))
  have hcell : w2.cell? ⟨w1.heap.size + 1, 14, none⟩ = some (.int .i64 2) := by
    have hg : w2.heap[w1.heap.size + 1]? = some (.cells wI 3) := by
      rw [hw2]
      have := heap_alloc_new (w1.alloc (.cells wS 9)) (.cells wI 3)
      simpa using this
    simp only [World.cell?, hg]
    rfl
  have h := HP.out (grownCap w2 22 0 5) w2
  rw [hs2] at h
  rw [hw2] at h
  with_reducible refine h.mono ?_
  rintro e w3 ⟨N, rfl, hr, hb3⟩
  rw [← hw2, ← hs2] at hb3
  clear h hw2 hcv HP
  have bN := Blk.new w3 (ncs N) 25
  have hbx : Below w3.heap.size w3 (w3.alloc (.cells (ncs N) 25)) := bel1
  have hb4 : Below w2.heap.size w2 (w3.alloc (.cells (ncs N) 25)) := hb3.trans (hbx.mono hb3.size)
  have hb5 : Below w1.heap.size w1 (w3.alloc (.cells (ncs N) 25)) := hb2.trans (hb4.mono hb2.size)
  have d1 : ∀ W, Below (w3.alloc (.cells (ncs N) 25)).heap.size (w3.alloc (.cells (ncs N) 25)) W → Calls Tryz.prog 10 #[.agg (ncs N)] W (PostR W (.int .i64 2)) := fun W hb => HC.out N W (hr.below (hbx.trans (hb.mono hbx.size)))
  have d3 : ∀ W, Below (w3.alloc (.cells (ncs N) 25)).heap.size (w3.alloc (.cells (ncs N) 25)) W → Calls Tryz.prog 9 #[.int .i64 2] W (PostR W (.int .i64 2)) := fun W hb => (num_any 2 W).mono fun e w' ⟨h1, h2⟩ => ⟨h1, by rw [h2]; exact Below.refl _ _⟩
  have HSx : Hid (∀ W, Below (w3.alloc (.cells (ncs N) 25)).heap.size (w3.alloc (.cells (ncs N) 25)) W → (Below (w3.alloc (.cells (ncs N) 25)).heap.size (w3.alloc (.cells (ncs N) 25)) W ∧ W.cell? ⟨w1.heap.size + 1, 14, none⟩ = some (.int .i64 2) ∧ (Ld 25 (.pointer (some ⟨w3.heap.size, 0, none⟩))).run Tryz.prog W = .ok (.agg (ncs N)) W)) := Lib.hid fun W hb => ⟨hb, kept_cell (kept_below (hb4.trans (hb.mono hb4.size))) (by omega) hcell, run_ldN (bN.call hb)⟩
  have c0 := (HSx.out _ (Below.refl _ _)).2.1
  have l1 := (HSx.out _ (Below.refl _ _)).2.2
  have HB5 := Lib.hid (HB1.out.trans (hb5.mono HB1.out.size))
  clear hr hb3 hbx hb4 hb5 bN hcell hb2 hs2
  go_wp2
  go_region_held3 (fun W => Below (w3.alloc (.cells (ncs N) 25)).heap.size (w3.alloc (.cells (ncs N) 25)) W ∧ W.cell? ⟨w1.heap.size + 1, 14, none⟩ = some (.int .i64 2) ∧ (Ld 25 (.pointer (some ⟨w3.heap.size, 0, none⟩))).run Tryz.prog W = .ok (.agg (ncs N)) W)
    (first | exact HSx.out _ (Below.refl _ _).drew | (go_split_ands; exact HSx.out _ (bel_tr (by assumption) (by assumption))))
    ((go_split_ands; first | (go_at_call 10; (with_reducible refine (d1 _ (by assumption)).mono ?_); intro e w4 hp; obtain ⟨rfl, hb⟩ := hp) | (go_at_call 9; (with_reducible refine (d3 _ (by assumption)).mono ?_); intro e w4 hp; obtain ⟨rfl, hb⟩ := hp)))
  go_split_ands
  go_wp2
  go_ret
  exact ⟨rfl, HB5.out.trans (Below.mono (by assumption) HB5.out.size)⟩
set_option maxRecDepth 100000 in
set_option maxHeartbeats 4000000 in
theorem wrong_15 (w : World) : Calls Tryz.prog 5 #[.int .i64 15] w (PostR w (.bool true)) := by
  have hal := alive_any w
  have hsz : tx15.size = 30 := rfl
  have hcv := fun w : World => Lib.run_convert_string_bytes (P := Tryz.prog) w 9 33 5 tx15 Tryz.underlying9 Tryz.underlying33 Tryz.underlying5
  have hp := fun (c : Nat) (w : World) => rp_txt tx15_ok c w
  have hc := fun (N : Nd) (w : World) (hr : Pr.Rd w (treeF ((lexO tx15 80 0).getD [])).1 N) => chk_txt tx15_ok hr
  obtain ⟨T, hT⟩ : ∃ T, (treeF ((lexO tx15 80 0).getD [])).1 = T := ⟨_, rfl⟩
  rw [hT] at hp hc
  rw [hsz] at hp hcv
  unfold tx15 at hp hcv
  have HP := Lib.hid hp
  have HC := Lib.hid hc
  clear hp hc hT
  go_enter Tryz.func5, Tryz.ntmps5
  go_wp2_with (first | (go_at_call 7; (with_reducible refine hal.mono ?_); rintro e w1 ⟨rfl, hb1⟩; have HB1 := Lib.hid hb1; clear hb1) | (go_at_call 12; refine Hid.out ?_))
  refine Lib.hid ?_
  obtain ⟨w2, hw2⟩ : ∃ w2, w2 = (w1.alloc (.cells wS 9)).alloc (.cells wI 3) := ⟨_, rfl⟩
  have hs2 : w2.heap.size = w1.heap.size + 2 := by rw [hw2]; simp
  have hb2 : Below w1.heap.size w1 w2 := by rw [hw2]; exact bel1.trans (bel1.mono (by simp))
  have hcell : w2.cell? ⟨w1.heap.size + 1, 15, none⟩ = some (.int .i64 2) := by
    have hg : w2.heap[w1.heap.size + 1]? = some (.cells wI 3) := by
      rw [hw2]
      have := heap_alloc_new (w1.alloc (.cells wS 9)) (.cells wI 3)
      simpa using this
    simp only [World.cell?, hg]
    rfl
  have h := HP.out (grownCap w2 30 0 5) w2
  rw [hs2] at h
  rw [hw2] at h
  with_reducible refine h.mono ?_
  rintro e w3 ⟨N, rfl, hr, hb3⟩
  rw [← hw2, ← hs2] at hb3
  clear h hw2 hcv HP
  have bN := Blk.new w3 (ncs N) 25
  have hbx : Below w3.heap.size w3 (w3.alloc (.cells (ncs N) 25)) := bel1
  have hb4 : Below w2.heap.size w2 (w3.alloc (.cells (ncs N) 25)) := hb3.trans (hbx.mono hb3.size)
  have hb5 : Below w1.heap.size w1 (w3.alloc (.cells (ncs N) 25)) := hb2.trans (hb4.mono hb2.size)
  have d1 : ∀ W, Below (w3.alloc (.cells (ncs N) 25)).heap.size (w3.alloc (.cells (ncs N) 25)) W → Calls Tryz.prog 10 #[.agg (ncs N)] W (PostR W (.int .i64 2)) := fun W hb => HC.out N W (hr.below (hbx.trans (hb.mono hbx.size)))
  have d3 : ∀ W, Below (w3.alloc (.cells (ncs N) 25)).heap.size (w3.alloc (.cells (ncs N) 25)) W → Calls Tryz.prog 9 #[.int .i64 2] W (PostR W (.int .i64 2)) := fun W hb => (num_any 2 W).mono fun e w' ⟨h1, h2⟩ => ⟨h1, by rw [h2]; exact Below.refl _ _⟩
  have HSx : Hid (∀ W, Below (w3.alloc (.cells (ncs N) 25)).heap.size (w3.alloc (.cells (ncs N) 25)) W → (Below (w3.alloc (.cells (ncs N) 25)).heap.size (w3.alloc (.cells (ncs N) 25)) W ∧ W.cell? ⟨w1.heap.size + 1, 15, none⟩ = some (.int .i64 2) ∧ (Ld 25 (.pointer (some ⟨w3.heap.size, 0, none⟩))).run Tryz.prog W = .ok (.agg (ncs N)) W)) := Lib.hid fun W hb => ⟨hb, kept_cell (kept_below (hb4.trans (hb.mono hb4.size))) (by omega) hcell, run_ldN (bN.call hb)⟩
  have c0 := (HSx.out _ (Below.refl _ _)).2.1
  have l1 := (HSx.out _ (Below.refl _ _)).2.2
  have HB5 := Lib.hid (HB1.out.trans (hb5.mono HB1.out.size))
  clear hr hb3 hbx hb4 hb5 bN hcell hb2 hs2
  go_wp2
  go_region_held3 (fun W => Below (w3.alloc (.cells (ncs N) 25)).heap.size (w3.alloc (.cells (ncs N) 25)) W ∧ W.cell? ⟨w1.heap.size + 1, 15, none⟩ = some (.int .i64 2) ∧ (Ld 25 (.pointer (some ⟨w3.heap.size, 0, none⟩))).run Tryz.prog W = .ok (.agg (ncs N)) W)
    (first | exact HSx.out _ (Below.refl _ _).drew | (go_split_ands; exact HSx.out _ (bel_tr (by assumption) (by assumption))))
    ((go_split_ands; first | (go_at_call 10; (with_reducible refine (d1 _ (by assumption)).mono ?_); intro e w4 hp; obtain ⟨rfl, hb⟩ := hp) | (go_at_call 9; (with_reducible refine (d3 _ (by assumption)).mono ?_); intro e w4 hp; obtain ⟨rfl, hb⟩ := hp)))
  go_split_ands
  go_wp2
  go_ret
  exact ⟨rfl, HB5.out.trans (Below.mono (by assumption) HB5.out.size)⟩
set_option maxRecDepth 100000 in
set_option maxHeartbeats 4000000 in
theorem wrong_16 (w : World) : Calls Tryz.prog 5 #[.int .i64 16] w (PostR w (.bool true)) := by
  have hal := alive_any w
  have hsz : tx16.size = 24 := rfl
  have hcv := fun w : World => Lib.run_convert_string_bytes (P := Tryz.prog) w 9 33 5 tx16 Tryz.underlying9 Tryz.underlying33 Tryz.underlying5
  have hp := fun (c : Nat) (w : World) => rp_txt tx16_ok c w
  have hc := fun (N : Nd) (w : World) (hr : Pr.Rd w (treeF ((lexO tx16 80 0).getD [])).1 N) => chk_txt tx16_ok hr
  obtain ⟨T, hT⟩ : ∃ T, (treeF ((lexO tx16 80 0).getD [])).1 = T := ⟨_, rfl⟩
  rw [hT] at hp hc
  rw [hsz] at hp hcv
  unfold tx16 at hp hcv
  have HP := Lib.hid hp
  have HC := Lib.hid hc
  clear hp hc hT
  go_enter Tryz.func5, Tryz.ntmps5
  go_wp2_with (first | (go_at_call 7; (with_reducible refine hal.mono ?_); rintro e w1 ⟨rfl, hb1⟩; have HB1 := Lib.hid hb1; clear hb1) | (go_at_call 12; refine Hid.out ?_))
  refine Lib.hid ?_
  obtain ⟨w2, hw2⟩ : ∃ w2, w2 = (w1.alloc (.cells wS 9)).alloc (.cells wI 3) := ⟨_, rfl⟩
  have hs2 : w2.heap.size = w1.heap.size + 2 := by rw [hw2]; simp
  have hb2 : Below w1.heap.size w1 w2 := by rw [hw2]; exact bel1.trans (bel1.mono (by simp))
  have hcell : w2.cell? ⟨w1.heap.size + 1, 16, none⟩ = some (.int .i64 2) := by
    have hg : w2.heap[w1.heap.size + 1]? = some (.cells wI 3) := by
      rw [hw2]
      have := heap_alloc_new (w1.alloc (.cells wS 9)) (.cells wI 3)
      simpa using this
    simp only [World.cell?, hg]
    rfl
  have h := HP.out (grownCap w2 24 0 5) w2
  rw [hs2] at h
  rw [hw2] at h
  with_reducible refine h.mono ?_
  rintro e w3 ⟨N, rfl, hr, hb3⟩
  rw [← hw2, ← hs2] at hb3
  clear h hw2 hcv HP
  have bN := Blk.new w3 (ncs N) 25
  have hbx : Below w3.heap.size w3 (w3.alloc (.cells (ncs N) 25)) := bel1
  have hb4 : Below w2.heap.size w2 (w3.alloc (.cells (ncs N) 25)) := hb3.trans (hbx.mono hb3.size)
  have hb5 : Below w1.heap.size w1 (w3.alloc (.cells (ncs N) 25)) := hb2.trans (hb4.mono hb2.size)
  have d1 : ∀ W, Below (w3.alloc (.cells (ncs N) 25)).heap.size (w3.alloc (.cells (ncs N) 25)) W → Calls Tryz.prog 10 #[.agg (ncs N)] W (PostR W (.int .i64 2)) := fun W hb => HC.out N W (hr.below (hbx.trans (hb.mono hbx.size)))
  have d3 : ∀ W, Below (w3.alloc (.cells (ncs N) 25)).heap.size (w3.alloc (.cells (ncs N) 25)) W → Calls Tryz.prog 9 #[.int .i64 2] W (PostR W (.int .i64 2)) := fun W hb => (num_any 2 W).mono fun e w' ⟨h1, h2⟩ => ⟨h1, by rw [h2]; exact Below.refl _ _⟩
  have HSx : Hid (∀ W, Below (w3.alloc (.cells (ncs N) 25)).heap.size (w3.alloc (.cells (ncs N) 25)) W → (Below (w3.alloc (.cells (ncs N) 25)).heap.size (w3.alloc (.cells (ncs N) 25)) W ∧ W.cell? ⟨w1.heap.size + 1, 16, none⟩ = some (.int .i64 2) ∧ (Ld 25 (.pointer (some ⟨w3.heap.size, 0, none⟩))).run Tryz.prog W = .ok (.agg (ncs N)) W)) := Lib.hid fun W hb => ⟨hb, kept_cell (kept_below (hb4.trans (hb.mono hb4.size))) (by omega) hcell, run_ldN (bN.call hb)⟩
  have c0 := (HSx.out _ (Below.refl _ _)).2.1
  have l1 := (HSx.out _ (Below.refl _ _)).2.2
  have HB5 := Lib.hid (HB1.out.trans (hb5.mono HB1.out.size))
  clear hr hb3 hbx hb4 hb5 bN hcell hb2 hs2
  go_wp2
  go_region_held3 (fun W => Below (w3.alloc (.cells (ncs N) 25)).heap.size (w3.alloc (.cells (ncs N) 25)) W ∧ W.cell? ⟨w1.heap.size + 1, 16, none⟩ = some (.int .i64 2) ∧ (Ld 25 (.pointer (some ⟨w3.heap.size, 0, none⟩))).run Tryz.prog W = .ok (.agg (ncs N)) W)
    (first | exact HSx.out _ (Below.refl _ _).drew | (go_split_ands; exact HSx.out _ (bel_tr (by assumption) (by assumption))))
    ((go_split_ands; first | (go_at_call 10; (with_reducible refine (d1 _ (by assumption)).mono ?_); intro e w4 hp; obtain ⟨rfl, hb⟩ := hp) | (go_at_call 9; (with_reducible refine (d3 _ (by assumption)).mono ?_); intro e w4 hp; obtain ⟨rfl, hb⟩ := hp)))
  go_split_ands
  go_wp2
  go_ret
  exact ⟨rfl, HB5.out.trans (Below.mono (by assumption) HB5.out.size)⟩
set_option maxRecDepth 100000 in
set_option maxHeartbeats 4000000 in
theorem wrong_17 (w : World) : Calls Tryz.prog 5 #[.int .i64 17] w (PostR w (.bool true)) := by
  have hal := alive_any w
  have hsz : tx17.size = 26 := rfl
  have hcv := fun w : World => Lib.run_convert_string_bytes (P := Tryz.prog) w 9 33 5 tx17 Tryz.underlying9 Tryz.underlying33 Tryz.underlying5
  have hp := fun (c : Nat) (w : World) => rp_txt tx17_ok c w
  have hc := fun (N : Nd) (w : World) (hr : Pr.Rd w (treeF ((lexO tx17 80 0).getD [])).1 N) => chk_txt tx17_ok hr
  obtain ⟨T, hT⟩ : ∃ T, (treeF ((lexO tx17 80 0).getD [])).1 = T := ⟨_, rfl⟩
  rw [hT] at hp hc
  rw [hsz] at hp hcv
  unfold tx17 at hp hcv
  have HP := Lib.hid hp
  have HC := Lib.hid hc
  clear hp hc hT
  go_enter Tryz.func5, Tryz.ntmps5
  go_wp2_with (first | (go_at_call 7; (with_reducible refine hal.mono ?_); rintro e w1 ⟨rfl, hb1⟩; have HB1 := Lib.hid hb1; clear hb1) | (go_at_call 12; refine Hid.out ?_))
  refine Lib.hid ?_
  obtain ⟨w2, hw2⟩ : ∃ w2, w2 = (w1.alloc (.cells wS 9)).alloc (.cells wI 3) := ⟨_, rfl⟩
  have hs2 : w2.heap.size = w1.heap.size + 2 := by rw [hw2]; simp
  have hb2 : Below w1.heap.size w1 w2 := by rw [hw2]; exact bel1.trans (bel1.mono (by simp))
  have hcell : w2.cell? ⟨w1.heap.size + 1, 17, none⟩ = some (.int .i64 0) := by
    have hg : w2.heap[w1.heap.size + 1]? = some (.cells wI 3) := by
      rw [hw2]
      have := heap_alloc_new (w1.alloc (.cells wS 9)) (.cells wI 3)
      simpa using this
    simp only [World.cell?, hg]
    rfl
  have h := HP.out (grownCap w2 26 0 5) w2
  rw [hs2] at h
  rw [hw2] at h
  with_reducible refine h.mono ?_
  rintro e w3 ⟨N, rfl, hr, hb3⟩
  rw [← hw2, ← hs2] at hb3
  clear h hw2 hcv HP
  have bN := Blk.new w3 (ncs N) 25
  have hbx : Below w3.heap.size w3 (w3.alloc (.cells (ncs N) 25)) := bel1
  have hb4 : Below w2.heap.size w2 (w3.alloc (.cells (ncs N) 25)) := hb3.trans (hbx.mono hb3.size)
  have hb5 : Below w1.heap.size w1 (w3.alloc (.cells (ncs N) 25)) := hb2.trans (hb4.mono hb2.size)
  have d1 : ∀ W, Below (w3.alloc (.cells (ncs N) 25)).heap.size (w3.alloc (.cells (ncs N) 25)) W → Calls Tryz.prog 10 #[.agg (ncs N)] W (PostR W (.int .i64 0)) := fun W hb => HC.out N W (hr.below (hbx.trans (hb.mono hbx.size)))
  have d3 : ∀ W, Below (w3.alloc (.cells (ncs N) 25)).heap.size (w3.alloc (.cells (ncs N) 25)) W → Calls Tryz.prog 9 #[.int .i64 0] W (PostR W (.int .i64 0)) := fun W hb => (num_any 0 W).mono fun e w' ⟨h1, h2⟩ => ⟨h1, by rw [h2]; exact Below.refl _ _⟩
  have HSx : Hid (∀ W, Below (w3.alloc (.cells (ncs N) 25)).heap.size (w3.alloc (.cells (ncs N) 25)) W → (Below (w3.alloc (.cells (ncs N) 25)).heap.size (w3.alloc (.cells (ncs N) 25)) W ∧ W.cell? ⟨w1.heap.size + 1, 17, none⟩ = some (.int .i64 0) ∧ (Ld 25 (.pointer (some ⟨w3.heap.size, 0, none⟩))).run Tryz.prog W = .ok (.agg (ncs N)) W)) := Lib.hid fun W hb => ⟨hb, kept_cell (kept_below (hb4.trans (hb.mono hb4.size))) (by omega) hcell, run_ldN (bN.call hb)⟩
  have c0 := (HSx.out _ (Below.refl _ _)).2.1
  have l1 := (HSx.out _ (Below.refl _ _)).2.2
  have HB5 := Lib.hid (HB1.out.trans (hb5.mono HB1.out.size))
  clear hr hb3 hbx hb4 hb5 bN hcell hb2 hs2
  go_wp2
  go_region_held3 (fun W => Below (w3.alloc (.cells (ncs N) 25)).heap.size (w3.alloc (.cells (ncs N) 25)) W ∧ W.cell? ⟨w1.heap.size + 1, 17, none⟩ = some (.int .i64 0) ∧ (Ld 25 (.pointer (some ⟨w3.heap.size, 0, none⟩))).run Tryz.prog W = .ok (.agg (ncs N)) W)
    (first | exact HSx.out _ (Below.refl _ _).drew | (go_split_ands; exact HSx.out _ (bel_tr (by assumption) (by assumption))))
    ((go_split_ands; first | (go_at_call 10; (with_reducible refine (d1 _ (by assumption)).mono ?_); intro e w4 hp; obtain ⟨rfl, hb⟩ := hp) | (go_at_call 9; (with_reducible refine (d3 _ (by assumption)).mono ?_); intro e w4 hp; obtain ⟨rfl, hb⟩ := hp)))
  go_split_ands
  go_wp2
  go_ret
  exact ⟨rfl, HB5.out.trans (Below.mono (by assumption) HB5.out.size)⟩
set_option maxRecDepth 100000 in
set_option maxHeartbeats 4000000 in
theorem wrong_18 (w : World) : Calls Tryz.prog 5 #[.int .i64 18] w (PostR w (.bool true)) := by
  have hal := alive_any w
  have hsz : tx18.size = 11 := rfl
  have hcv := fun w : World => Lib.run_convert_string_bytes (P := Tryz.prog) w 9 33 5 tx18 Tryz.underlying9 Tryz.underlying33 Tryz.underlying5
  have hp := fun (c : Nat) (w : World) => rp_txt tx18_ok c w
  have hc := fun (N : Nd) (w : World) (hr : Pr.Rd w (treeF ((lexO tx18 80 0).getD [])).1 N) => chk_txt tx18_ok hr
  obtain ⟨T, hT⟩ : ∃ T, (treeF ((lexO tx18 80 0).getD [])).1 = T := ⟨_, rfl⟩
  rw [hT] at hp hc
  rw [hsz] at hp hcv
  unfold tx18 at hp hcv
  have HP := Lib.hid hp
  have HC := Lib.hid hc
  clear hp hc hT
  go_enter Tryz.func5, Tryz.ntmps5
  go_wp2_with (first | (go_at_call 7; (with_reducible refine hal.mono ?_); rintro e w1 ⟨rfl, hb1⟩; have HB1 := Lib.hid hb1; clear hb1) | (go_at_call 12; refine Hid.out ?_))
  refine Lib.hid ?_
  obtain ⟨w2, hw2⟩ : ∃ w2, w2 = (w1.alloc (.cells wS 9)).alloc (.cells wI 3) := ⟨_, rfl⟩
  have hs2 : w2.heap.size = w1.heap.size + 2 := by rw [hw2]; simp
  have hb2 : Below w1.heap.size w1 w2 := by rw [hw2]; exact bel1.trans (bel1.mono (by simp))
  have hcell : w2.cell? ⟨w1.heap.size + 1, 18, none⟩ = some (.int .i64 2) := by
    have hg : w2.heap[w1.heap.size + 1]? = some (.cells wI 3) := by
      rw [hw2]
      have := heap_alloc_new (w1.alloc (.cells wS 9)) (.cells wI 3)
      simpa using this
    simp only [World.cell?, hg]
    rfl
  have h := HP.out (grownCap w2 11 0 5) w2
  rw [hs2] at h
  rw [hw2] at h
  with_reducible refine h.mono ?_
  rintro e w3 ⟨N, rfl, hr, hb3⟩
  rw [← hw2, ← hs2] at hb3
  clear h hw2 hcv HP
  have bN := Blk.new w3 (ncs N) 25
  have hbx : Below w3.heap.size w3 (w3.alloc (.cells (ncs N) 25)) := bel1
  have hb4 : Below w2.heap.size w2 (w3.alloc (.cells (ncs N) 25)) := hb3.trans (hbx.mono hb3.size)
  have hb5 : Below w1.heap.size w1 (w3.alloc (.cells (ncs N) 25)) := hb2.trans (hb4.mono hb2.size)
  have d1 : ∀ W, Below (w3.alloc (.cells (ncs N) 25)).heap.size (w3.alloc (.cells (ncs N) 25)) W → Calls Tryz.prog 10 #[.agg (ncs N)] W (PostR W (.int .i64 2)) := fun W hb => HC.out N W (hr.below (hbx.trans (hb.mono hbx.size)))
  have d3 : ∀ W, Below (w3.alloc (.cells (ncs N) 25)).heap.size (w3.alloc (.cells (ncs N) 25)) W → Calls Tryz.prog 9 #[.int .i64 2] W (PostR W (.int .i64 2)) := fun W hb => (num_any 2 W).mono fun e w' ⟨h1, h2⟩ => ⟨h1, by rw [h2]; exact Below.refl _ _⟩
  have HSx : Hid (∀ W, Below (w3.alloc (.cells (ncs N) 25)).heap.size (w3.alloc (.cells (ncs N) 25)) W → (Below (w3.alloc (.cells (ncs N) 25)).heap.size (w3.alloc (.cells (ncs N) 25)) W ∧ W.cell? ⟨w1.heap.size + 1, 18, none⟩ = some (.int .i64 2) ∧ (Ld 25 (.pointer (some ⟨w3.heap.size, 0, none⟩))).run Tryz.prog W = .ok (.agg (ncs N)) W)) := Lib.hid fun W hb => ⟨hb, kept_cell (kept_below (hb4.trans (hb.mono hb4.size))) (by omega) hcell, run_ldN (bN.call hb)⟩
  have c0 := (HSx.out _ (Below.refl _ _)).2.1
  have l1 := (HSx.out _ (Below.refl _ _)).2.2
  have HB5 := Lib.hid (HB1.out.trans (hb5.mono HB1.out.size))
  clear hr hb3 hbx hb4 hb5 bN hcell hb2 hs2
  go_wp2
  go_region_held3 (fun W => Below (w3.alloc (.cells (ncs N) 25)).heap.size (w3.alloc (.cells (ncs N) 25)) W ∧ W.cell? ⟨w1.heap.size + 1, 18, none⟩ = some (.int .i64 2) ∧ (Ld 25 (.pointer (some ⟨w3.heap.size, 0, none⟩))).run Tryz.prog W = .ok (.agg (ncs N)) W)
    (first | exact HSx.out _ (Below.refl _ _).drew | (go_split_ands; exact HSx.out _ (bel_tr (by assumption) (by assumption))))
    ((go_split_ands; first | (go_at_call 10; (with_reducible refine (d1 _ (by assumption)).mono ?_); intro e w4 hp; obtain ⟨rfl, hb⟩ := hp) | (go_at_call 9; (with_reducible refine (d3 _ (by assumption)).mono ?_); intro e w4 hp; obtain ⟨rfl, hb⟩ := hp)))
  go_split_ands
  go_wp2
  go_ret
  exact ⟨rfl, HB5.out.trans (Below.mono (by assumption) HB5.out.size)⟩
set_option maxRecDepth 100000 in
set_option maxHeartbeats 4000000 in
theorem wrong_19 (w : World) : Calls Tryz.prog 5 #[.int .i64 19] w (PostR w (.bool true)) := by
  have hal := alive_any w
  have hsz : tx19.size = 30 := rfl
  have hcv := fun w : World => Lib.run_convert_string_bytes (P := Tryz.prog) w 9 33 5 tx19 Tryz.underlying9 Tryz.underlying33 Tryz.underlying5
  have hp := fun (c : Nat) (w : World) => rp_txt tx19_ok c w
  have hc := fun (N : Nd) (w : World) (hr : Pr.Rd w (treeF ((lexO tx19 80 0).getD [])).1 N) => chk_txt tx19_ok hr
  obtain ⟨T, hT⟩ : ∃ T, (treeF ((lexO tx19 80 0).getD [])).1 = T := ⟨_, rfl⟩
  rw [hT] at hp hc
  rw [hsz] at hp hcv
  unfold tx19 at hp hcv
  have HP := Lib.hid hp
  have HC := Lib.hid hc
  clear hp hc hT
  go_enter Tryz.func5, Tryz.ntmps5
  go_wp2_with (first | (go_at_call 7; (with_reducible refine hal.mono ?_); rintro e w1 ⟨rfl, hb1⟩; have HB1 := Lib.hid hb1; clear hb1) | (go_at_call 12; refine Hid.out ?_))
  refine Lib.hid ?_
  obtain ⟨w2, hw2⟩ : ∃ w2, w2 = (w1.alloc (.cells wS 9)).alloc (.cells wI 3) := ⟨_, rfl⟩
  have hs2 : w2.heap.size = w1.heap.size + 2 := by rw [hw2]; simp
  have hb2 : Below w1.heap.size w1 w2 := by rw [hw2]; exact bel1.trans (bel1.mono (by simp))
  have hcell : w2.cell? ⟨w1.heap.size + 1, 19, none⟩ = some (.int .i64 0) := by
    have hg : w2.heap[w1.heap.size + 1]? = some (.cells wI 3) := by
      rw [hw2]
      have := heap_alloc_new (w1.alloc (.cells wS 9)) (.cells wI 3)
      simpa using this
    simp only [World.cell?, hg]
    rfl
  have h := HP.out (grownCap w2 30 0 5) w2
  rw [hs2] at h
  rw [hw2] at h
  with_reducible refine h.mono ?_
  rintro e w3 ⟨N, rfl, hr, hb3⟩
  rw [← hw2, ← hs2] at hb3
  clear h hw2 hcv HP
  have bN := Blk.new w3 (ncs N) 25
  have hbx : Below w3.heap.size w3 (w3.alloc (.cells (ncs N) 25)) := bel1
  have hb4 : Below w2.heap.size w2 (w3.alloc (.cells (ncs N) 25)) := hb3.trans (hbx.mono hb3.size)
  have hb5 : Below w1.heap.size w1 (w3.alloc (.cells (ncs N) 25)) := hb2.trans (hb4.mono hb2.size)
  have d1 : ∀ W, Below (w3.alloc (.cells (ncs N) 25)).heap.size (w3.alloc (.cells (ncs N) 25)) W → Calls Tryz.prog 10 #[.agg (ncs N)] W (PostR W (.int .i64 0)) := fun W hb => HC.out N W (hr.below (hbx.trans (hb.mono hbx.size)))
  have d3 : ∀ W, Below (w3.alloc (.cells (ncs N) 25)).heap.size (w3.alloc (.cells (ncs N) 25)) W → Calls Tryz.prog 9 #[.int .i64 0] W (PostR W (.int .i64 0)) := fun W hb => (num_any 0 W).mono fun e w' ⟨h1, h2⟩ => ⟨h1, by rw [h2]; exact Below.refl _ _⟩
  have HSx : Hid (∀ W, Below (w3.alloc (.cells (ncs N) 25)).heap.size (w3.alloc (.cells (ncs N) 25)) W → (Below (w3.alloc (.cells (ncs N) 25)).heap.size (w3.alloc (.cells (ncs N) 25)) W ∧ W.cell? ⟨w1.heap.size + 1, 19, none⟩ = some (.int .i64 0) ∧ (Ld 25 (.pointer (some ⟨w3.heap.size, 0, none⟩))).run Tryz.prog W = .ok (.agg (ncs N)) W)) := Lib.hid fun W hb => ⟨hb, kept_cell (kept_below (hb4.trans (hb.mono hb4.size))) (by omega) hcell, run_ldN (bN.call hb)⟩
  have c0 := (HSx.out _ (Below.refl _ _)).2.1
  have l1 := (HSx.out _ (Below.refl _ _)).2.2
  have HB5 := Lib.hid (HB1.out.trans (hb5.mono HB1.out.size))
  clear hr hb3 hbx hb4 hb5 bN hcell hb2 hs2
  go_wp2
  go_region_held3 (fun W => Below (w3.alloc (.cells (ncs N) 25)).heap.size (w3.alloc (.cells (ncs N) 25)) W ∧ W.cell? ⟨w1.heap.size + 1, 19, none⟩ = some (.int .i64 0) ∧ (Ld 25 (.pointer (some ⟨w3.heap.size, 0, none⟩))).run Tryz.prog W = .ok (.agg (ncs N)) W)
    (first | exact HSx.out _ (Below.refl _ _).drew | (go_split_ands; exact HSx.out _ (bel_tr (by assumption) (by assumption))))
    ((go_split_ands; first | (go_at_call 10; (with_reducible refine (d1 _ (by assumption)).mono ?_); intro e w4 hp; obtain ⟨rfl, hb⟩ := hp) | (go_at_call 9; (with_reducible refine (d3 _ (by assumption)).mono ?_); intro e w4 hp; obtain ⟨rfl, hb⟩ := hp)))
  go_split_ands
  go_wp2
  go_ret
  exact ⟨rfl, HB5.out.trans (Below.mono (by assumption) HB5.out.size)⟩
set_option maxRecDepth 100000 in
set_option maxHeartbeats 4000000 in
theorem wrong_low (n : Int) (h : n < 0) (w : World) : Calls Tryz.prog 5 #[.int .i64 n] w (PostR w (.bool true)) := by
  have hal := alive_any w
  have f1 : decide (n < 0) = true := by simp; omega
  go_enter Tryz.func5, Tryz.ntmps5
  go_wp2_with (go_at_call 7; (with_reducible refine hal.mono ?_); rintro e w1 ⟨rfl, hb1⟩; have HB1 := Lib.hid hb1; clear hb1)
  go_ret
  exact ⟨rfl, HB1.out.trans ((bel1.trans (bel1.mono (by simp))).mono HB1.out.size)⟩
set_option maxRecDepth 100000 in
set_option maxHeartbeats 4000000 in
theorem wrong_high (n : Int) (h : 20 ≤ n) (w : World) : Calls Tryz.prog 5 #[.int .i64 n] w (PostR w (.bool true)) := by
  have hal := alive_any w
  have f1 : decide (n < 0) = false := by simp; omega
  have f2 : decide (20 ≤ n) = true := by simp; omega
  go_enter Tryz.func5, Tryz.ntmps5
  go_wp2_with (go_at_call 7; (with_reducible refine hal.mono ?_); rintro e w1 ⟨rfl, hb1⟩; have HB1 := Lib.hid hb1; clear hb1)
  go_ret
  exact ⟨rfl, HB1.out.trans ((bel1.trans (bel1.mono (by simp))).mono HB1.out.size)⟩
theorem lawWrong_walk (n : Int) (w : World) : Calls Tryz.prog 5 #[.int .i64 n] w (PostR w (.bool true)) := by
  by_cases h0 : n < 0
  · exact wrong_low n h0 w
  by_cases h1 : 20 ≤ n
  · exact wrong_high n h1 w
  rcases (by omega : n = 0 ∨ n = 1 ∨ n = 2 ∨ n = 3 ∨ n = 4 ∨ n = 5 ∨ n = 6 ∨ n = 7 ∨ n = 8 ∨ n = 9 ∨ n = 10 ∨ n = 11 ∨ n = 12 ∨ n = 13 ∨ n = 14 ∨ n = 15 ∨ n = 16 ∨ n = 17 ∨ n = 18 ∨ n = 19) with rfl | rfl | rfl | rfl | rfl | rfl | rfl | rfl | rfl | rfl | rfl | rfl | rfl | rfl | rfl | rfl | rfl | rfl | rfl | rfl
  · exact wrong_0 w
  · exact wrong_1 w
  · exact wrong_2 w
  · exact wrong_3 w
  · exact wrong_4 w
  · exact wrong_5 w
  · exact wrong_6 w
  · exact wrong_7 w
  · exact wrong_8 w
  · exact wrong_9 w
  · exact wrong_10 w
  · exact wrong_11 w
  · exact wrong_12 w
  · exact wrong_13 w
  · exact wrong_14 w
  · exact wrong_15 w
  · exact wrong_16 w
  · exact wrong_17 w
  · exact wrong_18 w
  · exact wrong_19 w
end Go.Proofs.YtinoaajohkafmaaGreat.Ey
