/-
  EarlyWrong: the walk.
-/
import Derived.Test.YtinoaajohkafmaaGreatMw32
import Derived.Lib.SlBytesRow
import Derived.Lib.ConvBytes
import Derived.Deep.RegionHeld3
namespace Go.Proofs.YtinoaajohkafmaaGreat.Ey
open Go Go.RowKit Go.Maps Go.Proofs.YtinoaajohkafmaaGreat.Pa Go.Proofs.YtinoaajohkafmaaGreat.Pr
open Go.Proofs.YtinoaajohkafmaaGreat.Lx
set_option linter.unusedVariables false
set_option linter.unusedSimpArgs false
attribute [local go_sem ↓] ldK stK alK bdK bsK ldN stN alN bdN bsN
attribute [local irreducible] kcs ncs ncells
attribute [local go_sem] run_alN run_stNg run_ldNg run_bdN0
abbrev wS : Array Value := #[.string ⟨#[114, 101, 116, 117, 114, 110, 59]⟩, .string ⟨#[102, 117, 110, 99, 116, 105, 111, 110, 32, 102, 40, 41, 32, 123, 32, 114, 101, 116, 117, 114, 110, 59, 32, 125]⟩, .string ⟨#[98, 114, 101, 97, 107, 59]⟩, .string ⟨#[119, 104, 105, 108, 101, 32, 40, 49, 41, 32, 98, 114, 101, 97, 107, 59]⟩, .string ⟨#[119, 104, 105, 108, 101, 32, 40, 49, 41, 32, 123, 32, 102, 117, 110, 99, 116, 105, 111, 110, 32, 102, 40, 41, 32, 123, 32, 98, 114, 101, 97, 107, 59, 32, 125, 32, 125]⟩, .string ⟨#[119, 104, 105, 108, 101, 32, 40, 49, 41, 32, 123, 32, 105, 102, 32, 40, 49, 41, 32, 99, 111, 110, 116, 105, 110, 117, 101, 59, 32, 125]⟩, .string ⟨#[108, 101, 116, 32, 97, 59, 32, 108, 101, 116, 32, 97, 59]⟩, .string ⟨#[108, 101, 116, 32, 97, 59, 32, 123, 32, 108, 101, 116, 32, 97, 59, 32, 125]⟩, .string ⟨#[99, 111, 110, 115, 116, 32, 97, 32, 61, 32, 49, 59, 32, 102, 117, 110, 99, 116, 105, 111, 110, 32, 97, 40, 41, 32, 123, 32, 125]⟩, .string ⟨#[102, 117, 110, 99, 116, 105, 111, 110, 32, 102, 40, 97, 44, 32, 97, 41, 32, 123, 32, 125]⟩, .string ⟨#[102, 117, 110, 99, 116, 105, 111, 110, 32, 102, 40, 97, 41, 32, 123, 32, 108, 101, 116, 32, 97, 59, 32, 125]⟩, .string ⟨#[102, 117, 110, 99, 116, 105, 111, 110, 32, 102, 40, 97, 41, 32, 123, 32, 123, 32, 108, 101, 116, 32, 97, 59, 32, 125, 32, 125]⟩, .string ⟨#[116, 114, 121, 32, 123, 32, 125, 32, 99, 97, 116, 99, 104, 32, 40, 97, 41, 32, 123, 32, 108, 101, 116, 32, 97, 59, 32, 125]⟩, .string ⟨#[105, 102, 32, 40, 49, 41, 32, 108, 101, 116, 32, 97, 59]⟩, .string ⟨#[119, 104, 105, 108, 101, 32, 40, 49, 41, 32, 99, 111, 110, 115, 116, 32, 97, 32, 61, 32, 49, 59]⟩, .string ⟨#[105, 102, 32, 40, 49, 41, 32, 59, 32, 101, 108, 115, 101, 32, 102, 117, 110, 99, 116, 105, 111, 110, 32, 102, 40, 41, 32, 123, 32, 125]⟩, .string ⟨#[40, 123, 115, 101, 116, 32, 120, 40, 97, 41, 32, 123, 32, 108, 101, 116, 32, 97, 59, 32, 125, 125, 41, 59]⟩, .string ⟨#[40, 123, 103, 101, 116, 32, 120, 40, 41, 32, 123, 32, 114, 101, 116, 117, 114, 110, 32, 49, 59, 32, 125, 125, 41, 59]⟩, .string ⟨#[123, 32, 114, 101, 116, 117, 114, 110, 59, 32, 125]⟩, .string ⟨#[108, 101, 116, 32, 97, 59, 32, 102, 117, 110, 99, 116, 105, 111, 110, 32, 102, 40, 41, 32, 123, 32, 108, 101, 116, 32, 97, 59, 32, 125]⟩]
abbrev wI : Array Value := #[.int .i64 2, .int .i64 0, .int .i64 2, .int .i64 0, .int .i64 2, .int .i64 0, .int .i64 2, .int .i64 0, .int .i64 2, .int .i64 2, .int .i64 2, .int .i64 0, .int .i64 0, .int .i64 2, .int .i64 2, .int .i64 2, .int .i64 2, .int .i64 0, .int .i64 2, .int .i64 0]
theorem chk_txt {s : ByteArray} {n : Nat} {r : Int} (h : Txt s n r) {N : Nd} {w : World} (hr : Pr.Rd w (treeF ((lexO s n 0).getD [])).1 N) : Calls Tryz.prog 10 #[.agg (ncs N)] w (PostR w (.int .i64 r)) := by
  have := check_any (K := 12) (D := 13) hr (Pw.str_wei _ h.wei) (big_bd 13 _ h.big) (by decide) (by decide)
  rw [h.chk] at this
  exact this
set_option maxRecDepth 100000 in
set_option maxHeartbeats 4000000 in
theorem wrong_0 (w : World) : Calls Tryz.prog 5 #[.int .i64 0] w (PostR w (.bool true)) := by
  have hal := alive_any w
  have hsz : tx0.size = 7 := rfl
  have hcv := fun w : World => Lib.run_convert_string_bytes (P := Tryz.prog) w 9 33 5 tx0 Tryz.underlying9 Tryz.underlying33 Tryz.underlying5
  have hp := fun (c : Nat) (w : World) => rp_txt tx0_ok c w
  have hc := fun (N : Nd) (w : World) (hr : Pr.Rd w (treeF ((lexO tx0 80 0).getD [])).1 N) => chk_txt tx0_ok hr
  obtain ⟨T, hT⟩ : ∃ T, (treeF ((lexO tx0 80 0).getD [])).1 = T := ⟨_, rfl⟩
  rw [hT] at hp hc
  rw [hsz] at hp hcv
  unfold tx0 at hp hcv
  have HP := Lib.hid hp
  have HC := Lib.hid hc
  clear hp hc hT
  go_enter Tryz.func5, Tryz.ntmps5
  go_wp2_with (first | (go_at_call 7; (with_reducible refine hal.mono ?_); rintro e w1 ⟨rfl, hb1⟩; have HB1 := Lib.hid hb1; clear hb1) | (go_at_call 12; refine Hid.out ?_))
  refine Lib.hid ?_
  obtain ⟨w2, hw2⟩ : ∃ w2, w2 = (w1.alloc (.cells wS 9)).alloc (.cells wI 3) := ⟨_, rfl⟩
  have hs2 : w2.heap.size = w1.heap.size + 2 := by rw [hw2]; simp
  have hb2 : Below w1.heap.size w1 w2 := by rw [hw2]; exact bel1.trans (bel1.mono (by simp))
  have hcell : w2.cell? ⟨w1.heap.size + 1, 0, none⟩ = some (.int .i64 2) := by
    have hg : w2.heap[w1.heap.size + 1]? = some (.cells wI 3) := by
      rw [hw2]
      have := heap_alloc_new (w1.alloc (.cells wS 9)) (.cells wI 3)
      simpa using this
    simp only [World.cell?, hg]
    rfl
  have h := HP.out (grownCap w2 7 0 5) w2
  rw [hs2] at h
  rw [hw2] at h
  with_reducible refine h.mono ?_
  rintro e w3 ⟨N, rfl, hr, hb3⟩
  rw [← hw2, ← hs2] at hb3
  clear h hw2 hcv HP
  have bN := Blk.new w3 (ncs N) 25
  have hbx : Below w3.heap.size w3 (w3.alloc (.cells (ncs N) 25)) := bel1
  have hb4 : Below w2.heap.size w2 (w3.alloc (.cells (ncs N) 25)) := hb3.trans (hbx.mono hb3.size)
  have hb5 : Below w1.heap.size w1 (w3.alloc (.cells (ncs N) 25)) := hb2.trans (hb4.mono hb2.size)
  have d1 : ∀ W, Below (w3.alloc (.cells (ncs N) 25)).heap.size (w3.alloc (.cells (ncs N) 25)) W → Calls Tryz.prog 10 #[.agg (ncs N)] W (PostR W (.int .i64 2)) := fun W hb => HC.out N W (hr.below (hbx.trans (hb.mono hbx.size)))
  have d3 : ∀ W, Below (w3.alloc (.cells (ncs N) 25)).heap.size (w3.alloc (.cells (ncs N) 25)) W → Calls Tryz.prog 9 #[.int .i64 2] W (PostR W (.int .i64 2)) := fun W hb => (num_any 2 W).mono fun e w' ⟨h1, h2⟩ => ⟨h1, by rw [h2]; exact Below.refl _ _⟩
  have HSx : Hid (∀ W, Below (w3.alloc (.cells (ncs N) 25)).heap.size (w3.alloc (.cells (ncs N) 25)) W → (Below (w3.alloc (.cells (ncs N) 25)).heap.size (w3.alloc (.cells (ncs N) 25)) W ∧ W.cell? ⟨w1.heap.size + 1, 0, none⟩ = some (.int .i64 2) ∧ (Ld 25 (.pointer (some ⟨w3.heap.size, 0, none⟩))).run Tryz.prog W = .ok (.agg (ncs N)) W)) := Lib.hid fun W hb => ⟨hb, kept_cell (kept_below (hb4.trans (hb.mono hb4.size))) (by omega) hcell, run_ldN (bN.call hb)⟩
  have c0 := (HSx.out _ (Below.refl _ _)).2.1
  have l1 := (HSx.out _ (Below.refl _ _)).2.2
  have HB5 := Lib.hid (HB1.out.trans (hb5.mono HB1.out.size))
  clear hr hb3 hbx hb4 hb5 bN hcell hb2 hs2
  go_wp2
  go_region_held3 (fun W => Below (w3.alloc (.cells (ncs N) 25)).heap.size (w3.alloc (.cells (ncs N) 25)) W ∧ W.cell? ⟨w1.heap.size + 1, 0, none⟩ = some (.int .i64 2) ∧ (Ld 25 (.pointer (some ⟨w3.heap.size, 0, none⟩))).run Tryz.prog W = .ok (.agg (ncs N)) W)
    (first | exact HSx.out _ (Below.refl _ _).drew | (go_split_ands; exact HSx.out _ (bel_tr (by assumption) (by assumption))))
    ((go_split_ands; first | (go_at_call 10; (with_reducible refine (d1 _ (by assumption)).mono ?_); intro e w4 hp; obtain ⟨rfl, hb⟩ := hp) | (go_at_call 9; (with_reducible refine (d3 _ (by assumption)).mono ?_); intro e w4 hp; obtain ⟨rfl, hb⟩ := hp)))
  go_split_ands
  go_wp2
  go_ret
  exact ⟨rfl, HB5.out.trans (Below.mono (by assumption) HB5.out.size)⟩
set_option maxRecDepth 100000 in
set_option maxHeartbeats 4000000 in
theorem wrong_1 (w : World) : Calls Tryz.prog 5 #[.int .i64 1] w (PostR w (.bool true)) := by
  have hal := alive_any w
  have hsz : tx1.size = 24 := rfl
  have hcv := fun w : World => Lib.run_convert_string_bytes (P := Tryz.prog) w 9 33 5 tx1 Tryz.underlying9 Tryz.underlying33 Tryz.underlying5
  have hp := fun (c : Nat) (w : World) => rp_txt tx1_ok c w
  have hc := fun (N : Nd) (w : World) (hr : Pr.Rd w (treeF ((lexO tx1 80 0).getD [])).1 N) => chk_txt tx1_ok hr
  obtain ⟨T, hT⟩ : ∃ T, (treeF ((lexO tx1 80 0).getD [])).1 = T := ⟨_, rfl⟩
  rw [hT] at hp hc
  rw [hsz] at hp hcv
  unfold tx1 at hp hcv
  have HP := Lib.hid hp
  have HC := Lib.hid hc
  clear hp hc hT
  go_enter Tryz.func5, Tryz.ntmps5
  go_wp2_with (first | (go_at_call 7; (with_reducible refine hal.mono ?_); rintro e w1 ⟨rfl, hb1⟩; have HB1 := Lib.hid hb1; clear hb1) | (go_at_call 12; refine Hid.out ?_))
  refine Lib.hid ?_
  obtain ⟨w2, hw2⟩ : ∃ w2, w2 = (w1.alloc (.cells wS 9)).alloc (.cells wI 3) := ⟨_, rfl⟩
  have hs2 : w2.heap.size = w1.heap.size + 2 := by rw [hw2]; simp
  have hb2 : Below w1.heap.size w1 w2 := by rw [hw2]; exact bel1.trans (bel1.mono (by simp))
  have hcell : w2.cell? ⟨w1.heap.size + 1, 1, none⟩ = some (.int .i64 0) := by
    have hg : w2.heap[w1.heap.size + 1]? = some (.cells wI 3) := by
      rw [hw2]
      have := heap_alloc_new (w1.alloc (.cells wS 9)) (.cells wI 3)
      simpa using this
    simp only [World.cell?, hg]
    rfl
  have h := HP.out (grownCap w2 24 0 5) w2
  rw [hs2] at h
  rw [hw2] at h
  with_reducible refine h.mono ?_
  rintro e w3 ⟨N, rfl, hr, hb3⟩
  rw [← hw2, ← hs2] at hb3
  clear h hw2 hcv HP
  have bN := Blk.new w3 (ncs N) 25
  have hbx : Below w3.heap.size w3 (w3.alloc (.cells (ncs N) 25)) := bel1
  have hb4 : Below w2.heap.size w2 (w3.alloc (.cells (ncs N) 25)) := hb3.trans (hbx.mono hb3.size)
  have hb5 : Below w1.heap.size w1 (w3.alloc (.cells (ncs N) 25)) := hb2.trans (hb4.mono hb2.size)
  have d1 : ∀ W, Below (w3.alloc (.cells (ncs N) 25)).heap.size (w3.alloc (.cells (ncs N) 25)) W → Calls Tryz.prog 10 #[.agg (ncs N)] W (PostR W (.int .i64 0)) := fun W hb => HC.out N W (hr.below (hbx.trans (hb.mono hbx.size)))
  have d3 : ∀ W, Below (w3.alloc (.cells (ncs N) 25)).heap.size (w3.alloc (.cells (ncs N) 25)) W → Calls Tryz.prog 9 #[.int .i64 0] W (PostR W (.int .i64 0)) := fun W hb => (num_any 0 W).mono fun e w' ⟨h1, h2⟩ => ⟨h1, by rw [h2]; exact Below.refl _ _⟩
  have HSx : Hid (∀ W, Below (w3.alloc (.cells (ncs N) 25)).heap.size (w3.alloc (.cells (ncs N) 25)) W → (Below (w3.alloc (.cells (ncs N) 25)).heap.size (w3.alloc (.cells (ncs N) 25)) W ∧ W.cell? ⟨w1.heap.size + 1, 1, none⟩ = some (.int .i64 0) ∧ (Ld 25 (.pointer (some ⟨w3.heap.size, 0, none⟩))).run Tryz.prog W = .ok (.agg (ncs N)) W)) := Lib.hid fun W hb => ⟨hb, kept_cell (kept_below (hb4.trans (hb.mono hb4.size))) (by omega) hcell, run_ldN (bN.call hb)⟩
  have c0 := (HSx.out _ (Below.refl _ _)).2.1
  have l1 := (HSx.out _ (Below.refl _ _)).2.2
  have HB5 := Lib.hid (HB1.out.trans (hb5.mono HB1.out.size))
  clear hr hb3 hbx hb4 hb5 bN hcell hb2 hs2
  go_wp2
  go_region_held3 (fun W => Below (w3.alloc (.cells (ncs N) 25)).heap.size (w3.alloc (.cells (ncs N) 25)) W ∧ W.cell? ⟨w1.heap.size + 1, 1, none⟩ = some (.int .i64 0) ∧ (Ld 25 (.pointer (some ⟨w3.heap.size, 0, none⟩))).run Tryz.prog W = .ok (.agg (ncs N)) W)
    (first | exact HSx.out _ (Below.refl _ _).drew | (go_split_ands; exact HSx.out _ (bel_tr (by assumption) (by assumption))))
    ((go_split_ands; first | (go_at_call 10; (with_reducible refine (d1 _ (by assumption)).mono ?_); intro e w4 hp; obtain ⟨rfl, hb⟩ := hp) | (go_at_call 9; (with_reducible refine (d3 _ (by assumption)).mono ?_); intro e w4 hp; obtain ⟨rfl, hb⟩ := hp)))
  go_split_ands
  go_wp2
  go_ret
  exact ⟨rfl, HB5.out.trans (Below.mono (by assumption) HB5.out.size)⟩
set_option maxRecDepth 100000 in
set_option maxHeartbeats 4000000 in
theorem wrong_2 (w : World) : Calls Tryz.prog 5 #[.int .i64 2] w (PostR w (.bool true)) := by
  have hal := alive_any w
  have hsz : tx2.size = 6 := rfl
  have hcv := fun w : World => Lib.run_convert_string_bytes (P := Tryz.prog) w 9 33 5 tx2 Tryz.underlying9 Tryz.underlying33 Tryz.underlying5
  have hp := fun (c : Nat) (w : World) => rp_txt tx2_ok c w
  have hc := fun (N : Nd) (w : World) (hr : Pr.Rd w (treeF ((lexO tx2 80 0).getD [])).1 N) => chk_txt tx2_ok hr
  obtain ⟨T, hT⟩ : ∃ T, (treeF ((lexO tx2 80 0).getD [])).1 = T := ⟨_, rfl⟩
  rw [hT] at hp hc
  rw [hsz] at hp hcv
  unfold tx2 at hp hcv
  have HP := Lib.hid hp
  have HC := Lib.hid hc
  clear hp hc hT
  go_enter Tryz.func5, Tryz.ntmps5
  go_wp2_with (first | (go_at_call 7; (with_reducible refine hal.mono ?_); rintro e w1 ⟨rfl, hb1⟩; have HB1 := Lib.hid hb1; clear hb1) | (go_at_call 12; refine Hid.out ?_))
  refine Lib.hid ?_
  obtain ⟨w2, hw2⟩ : ∃ w2, w2 = (w1.alloc (.cells wS 9)).alloc (.cells wI 3) := ⟨_, rfl⟩
  have hs2 : w2.heap.size = w1.heap.size + 2 := by rw [hw2]; simp
  have hb2 : Below w1.heap.size w1 w2 := by rw [hw2]; exact bel1.trans (bel1.mono (by simp))
  have hcell : w2.cell? ⟨w1.heap.size + 1, 2, none⟩ = some (.int .i64 2) := by
    have hg : w2.heap[w1.heap.size + 1]? = some (.cells wI 3) := by
      rw [hw2]
      have := heap_alloc_new (w1.alloc (.cells wS 9)) (.cells wI 3)
      simpa using this
    simp only [World.cell?, hg]
    rfl
  have h := HP.out (grownCap w2 6 0 5) w2
  rw [hs2] at h
  rw [hw2] at h
  with_reducible refine h.mono ?_
  rintro e w3 ⟨N, rfl, hr, hb3⟩
  rw [← hw2, ← hs2] at hb3
  clear h hw2 hcv HP
  have bN := Blk.new w3 (ncs N) 25
  have hbx : Below w3.heap.size w3 (w3.alloc (.cells (ncs N) 25)) := bel1
  have hb4 : Below w2.heap.size w2 (w3.alloc (.cells (ncs N) 25)) := hb3.trans (hbx.mono hb3.size)
  have hb5 : Below w1.heap.size w1 (w3.alloc (.cells (ncs N) 25)) := hb2.trans (hb4.mono hb2.size)
  have d1 : ∀ W, Below (w3.alloc (.cells (ncs N) 25)).heap.size (w3.alloc (.cells (ncs N) 25)) W → Calls Tryz.prog 10 #[.agg (ncs N)] W (PostR W (.int .i64 2)) := fun W hb => HC.out N W (hr.below (hbx.trans (hb.mono hbx.size)))
  have d3 : ∀ W, Below (w3.alloc (.cells (ncs N) 25)).heap.size (w3.alloc (.cells (ncs N) 25)) W → Calls Tryz.prog 9 #[.int .i64 2] W (PostR W (.int .i64 2)) := fun W hb => (num_any 2 W).mono fun e w' ⟨h1, h2⟩ => ⟨h1, by rw [h2]; exact Below.refl _ _⟩
  have HSx : Hid (∀ W, Below (w3.alloc (.cells (ncs N) 25)).heap.size (w3.alloc (.cells (ncs N) 25)) W → (Below (w3.alloc (.cells (ncs N) 25)).heap.size (w3.alloc (.cells (ncs N) 25)) W ∧ W.cell? ⟨w1.heap.size + 1, 2, none⟩ = some (.int .i64 2) ∧ (Ld 25 (.pointer (some ⟨w3.heap.size, 0, none⟩))).run Tryz.prog W = .ok (.agg (ncs N)) W)) := Lib.hid fun W hb => ⟨hb, kept_cell (kept_below (hb4.trans (hb.mono hb4.size))) (by omega) hcell, run_ldN (bN.call hb)⟩
  have c0 := (HSx.out _ (Below.refl _ _)).2.1
  have l1 := (HSx.out _ (Below.refl _ _)).2.2
  have HB5 := Lib.hid (HB1.out.trans (hb5.mono HB1.out.size))
  clear hr hb3 hbx hb4 hb5 bN hcell hb2 hs2
  go_wp2
  go_region_held3 (fun W => Below (w3.alloc (.cells (ncs N) 25)).heap.size (w3.alloc (.cells (ncs N) 25)) W ∧ W.cell? ⟨w1.heap.size + 1, 2, none⟩ = some (.int .i64 2) ∧ (Ld 25 (.pointer (some ⟨w3.heap.size, 0, none⟩))).run Tryz.prog W = .ok (.agg (ncs N)) W)
    (first | exact HSx.out _ (Below.refl _ _).drew | (go_split_ands; exact HSx.out _ (bel_tr (by assumption) (by assumption))))
    ((go_split_ands; first | (go_at_call 10; (with_reducible refine (d1 _ (by assumption)).mono ?_); intro e w4 hp; obtain ⟨rfl, hb⟩ := hp) | (go_at_call 9; (with_reducible refine (d3 _ (by assumption)).mono ?_); intro e w4 hp; obtain ⟨rfl, hb⟩ := hp)))
  go_split_ands
  go_wp2
  go_ret
  exact ⟨rfl, HB5.out.trans (Below.mono (by assumption) HB5.out.size)⟩
set_option maxRecDepth 100000 in
set_option maxHeartbeats 4000000 in
theorem wrong_3 (w : World) : Calls Tryz.prog 5 #[.int .i64 3] w (PostR w (.bool true)) := by
  have hal := alive_any w
  have hsz : tx3.size = 16 := rfl
  have hcv := fun w : World => Lib.run_convert_string_bytes (P := Tryz.prog) w 9 33 5 tx3 Tryz.underlying9 Tryz.underlying33 Tryz.underlying5
  have hp := fun (c : Nat) (w : World) => rp_txt tx3_ok c w
  have hc := fun (N : Nd) (w : World) (hr : Pr.Rd w (treeF ((lexO tx3 80 0).getD [])).1 N) => chk_txt tx3_ok hr
  obtain ⟨T, hT⟩ : ∃ T, (treeF ((lexO tx3 80 0).getD [])).1 = T := ⟨_, rfl⟩
  rw [hT] at hp hc
  rw [hsz] at hp hcv
  unfold tx3 at hp hcv
  have HP := Lib.hid hp
  have HC := Lib.hid hc
  clear hp hc hT
  go_enter Tryz.func5, Tryz.ntmps5
  go_wp2_with (first | (go_at_call 7; (with_reducible refine hal.mono ?_); rintro e w1 ⟨rfl, hb1⟩; have HB1 := Lib.hid hb1; clear hb1) | (go_at_call 12; refine Hid.out ?_))
  refine Lib.hid ?_
  obtain ⟨w2, hw2⟩ : ∃ w2, w2 = (w1.alloc (.cells wS 9)).alloc (.cells wI 3) := ⟨_, rfl⟩
  have hs2 : w2.heap.size = w1.heap.size + 2 := by rw [hw2]; simp
  have hb2 : Below w1.heap.size w1 w2 := by rw [hw2]; exact bel1.trans (bel1.mono (by simp))
  have hcell : w2.cell? ⟨w1.heap.size + 1, 3, none⟩ = some (.int .i64 0) := by
    have hg : w2.heap[w1.heap.size + 1]? = some (.cells wI 3) := by
      rw [hw2]
      have := heap_alloc_new (w1.alloc (.cells wS 9)) (.cells wI 3)
      simpa using this
    simp only [World.cell?, hg]
    rfl
  have h := HP.out (grownCap w2 16 0 5) w2
  rw [hs2] at h
  rw [hw2] at h
  with_reducible refine h.mono ?_
  rintro e w3 ⟨N, rfl, hr, hb3⟩
  rw [← hw2, ← hs2] at hb3
  clear h hw2 hcv HP
  have bN := Blk.new w3 (ncs N) 25
  have hbx : Below w3.heap.size w3 (w3.alloc (.cells (ncs N) 25)) := bel1
  have hb4 : Below w2.heap.size w2 (w3.alloc (.cells (ncs N) 25)) := hb3.trans (hbx.mono hb3.size)
  have hb5 : Below w1.heap.size w1 (w3.alloc (.cells (ncs N) 25)) := hb2.trans (hb4.mono hb2.size)
  have d1 : ∀ W, Below (w3.alloc (.cells (ncs N) 25)).heap.size (w3.alloc (.cells (ncs N) 25)) W → Calls Tryz.prog 10 #[.agg (ncs N)] W (PostR W (.int .i64 0)) := fun W hb => HC.out N W (hr.below (hbx.trans (hb.mono hbx.size)))
  have d3 : ∀ W, Below (w3.alloc (.cells (ncs N) 25)).heap.size (w3.alloc (.cells (ncs N) 25)) W → Calls Tryz.prog 9 #[.int .i64 0] W (PostR W (.int .i64 0)) := fun W hb => (num_any 0 W).mono fun e w' ⟨h1, h2⟩ => ⟨h1, by rw [h2]; exact Below.refl _ _⟩
  have HSx : Hid (∀ W, Below (w3.alloc (.cells (ncs N) 25)).heap.size (w3.alloc (.cells (ncs N) 25)) W → (Below (w3.alloc (.cells (ncs N) 25)).heap.size (w3.alloc (.cells (ncs N) 25)) W ∧ W.cell? ⟨w1.heap.size + 1, 3, none⟩ = some (.int .i64 0) ∧ (Ld 25 (.pointer (some ⟨w3.heap.size, 0, none⟩))).run Tryz.prog W = .ok (.agg (ncs N)) W)) := Lib.hid fun W hb => ⟨hb, kept_cell (kept_below (hb4.trans (hb.mono hb4.size))) (by omega) hcell, run_ldN (bN.call hb)⟩
  have c0 := (HSx.out _ (Below.refl _ _)).2.1
  have l1 := (HSx.out _ (Below.refl _ _)).2.2
  have HB5 := Lib.hid (HB1.out.trans (hb5.mono HB1.out.size))
  clear hr hb3 hbx hb4 hb5 bN hcell hb2 hs2
  go_wp2
  go_region_held3 (fun W => Below (w3.alloc (.cells (ncs N) 25)).heap.size (w3.alloc (.cells (ncs N) 25)) W ∧ W.cell? ⟨w1.heap.size + 1, 3, none⟩ = some (.int .i64 0) ∧ (Ld 25 (.pointer (some ⟨w3.heap.size, 0, none⟩))).run Tryz.prog W = .ok (.agg (ncs N)) W)
    (first | exact HSx.out _ (Below.refl _ _).drew | (go_split_ands; exact HSx.out _ (bel_tr (by assumption) (by assumption))))
    ((go_split_ands; first | (go_at_call 10; (with_reducible refine (d1 _ (by assumption)).mono ?_); intro e w4 hp; obtain ⟨rfl, hb⟩ := hp) | (go_at_call 9; (with_reducible refine (d3 _ (by assumption)).mono ?_); intro e w4 hp; obtain ⟨rfl, hb⟩ := hp)))
  go_split_ands
  go_wp2
  go_ret
  exact ⟨rfl, HB5.out.trans (Below.mono (by assumption) HB5.out.size)⟩
set_option maxRecDepth 100000 in
set_option maxHeartbeats 4000000 in
theorem wrong_4 (w : World) : Calls Tryz.prog 5 #[.int .i64 4] w (PostR w (.bool true)) := by
  have hal := alive_any w
  have hsz : tx4.size = 37 := rfl
  have hcv := fun w : World => Lib.run_convert_string_bytes (P := Tryz.prog) w 9 33 5 tx4 Tryz.underlying9 Tryz.underlying33 Tryz.underlying5
  have hp := fun (c : Nat) (w : World) => rp_txt tx4_ok c w
  have hc := fun (N : Nd) (w : World) (hr : Pr.Rd w (treeF ((lexO tx4 80 0).getD [])).1 N) => chk_txt tx4_ok hr
  obtain ⟨T, hT⟩ : ∃ T, (treeF ((lexO tx4 80 0).getD [])).1 = T := ⟨_, rfl⟩
  rw [hT] at hp hc
  rw [hsz] at hp hcv
  unfold tx4 at hp hcv
  have HP := Lib.hid hp
  have HC := Lib.hid hc
  clear hp hc hT
  go_enter Tryz.func5, Tryz.ntmps5
  go_wp2_with (first | (go_at_call 7; (with_reducible refine hal.mono ?_); rintro e w1 ⟨rfl, hb1⟩; have HB1 := Lib.hid hb1; clear hb1) | (go_at_call 12; refine Hid.out ?_))
  refine Lib.hid ?_
  obtain ⟨w2, hw2⟩ : ∃ w2, w2 = (w1.alloc (.cells wS 9)).alloc (.cells wI 3) := ⟨_, rfl⟩
  have hs2 : w2.heap.size = w1.heap.size + 2 := by rw [hw2]; simp
  have hb2 : Below w1.heap.size w1 w2 := by rw [hw2]; exact bel1.trans (bel1.mono (by simp))
  have hcell : w2.cell? ⟨w1.heap.size + 1, 4, none⟩ = some (.int .i64 2) := by
    have hg : w2.heap[w1.heap.size + 1]? = some (.cells wI 3) := by
      rw [hw2]
      have := heap_alloc_new (w1.alloc (.cells wS 9)) (.cells wI 3)
      simpa using this
    simp only [World.cell?, hg]
    rfl
  have h := HP.out (grownCap w2 37 0 5) w2
  rw [hs2] at h
  rw [hw2] at h
  with_reducible refine h.mono ?_
  rintro e w3 ⟨N, rfl, hr, hb3⟩
  rw [← hw2, ← hs2] at hb3
  clear h hw2 hcv HP
  have bN := Blk.new w3 (ncs N) 25
  have hbx : Below w3.heap.size w3 (w3.alloc (.cells (ncs N) 25)) := bel1
  have hb4 : Below w2.heap.size w2 (w3.alloc (.cells (ncs N) 25)) := hb3.trans (hbx.mono hb3.size)
  have hb5 : Below w1.heap.size w1 (w3.alloc (.cells (ncs N) 25)) := hb2.trans (hb4.mono hb2.size)
  have d1 : ∀ W, Below (w3.alloc (.cells (ncs N) 25)).heap.size (w3.alloc (.cells (ncs N) 25)) W → Calls Tryz.prog 10 #[.agg (ncs N)] W (PostR W (.int .i64 2)) := fun W hb => HC.out N W (hr.below (hbx.trans (hb.mono hbx.size)))
  have d3 : ∀ W, Below (w3.alloc (.cells (ncs N) 25)).heap.size (w3.alloc (.cells (ncs N) 25)) W → Calls Tryz.prog 9 #[.int .i64 2] W (PostR W (.int .i64 2)) := fun W hb => (num_any 2 W).mono fun e w' ⟨h1, h2⟩ => ⟨h1, by rw [h2]; exact Below.refl _ _⟩
  have HSx : Hid (∀ W, Below (w3.alloc (.cells (ncs N) 25)).heap.size (w3.alloc (.cells (ncs N) 25)) W → (Below (w3.alloc (.cells (ncs N) 25)).heap.size (w3.alloc (.cells (ncs N) 25)) W ∧ W.cell? ⟨w1.heap.size + 1, 4, none⟩ = some (.int .i64 2) ∧ (Ld 25 (.pointer (some ⟨w3.heap.size, 0, none⟩))).run Tryz.prog W = .ok (.agg (ncs N)) W)) := Lib.hid fun W hb => ⟨hb, kept_cell (kept_below (hb4.trans (hb.mono hb4.size))) (by omega) hcell, run_ldN (bN.call hb)⟩
  have c0 := (HSx.out _ (Below.refl _ _)).2.1
  have l1 := (HSx.out _ (Below.refl _ _)).2.2
  have HB5 := Lib.hid (HB1.out.trans (hb5.mono HB1.out.size))
  clear hr hb3 hbx hb4 hb5 bN hcell hb2 hs2
  go_wp2
  go_region_held3 (fun W => Below (w3.alloc (.cells (ncs N) 25)).heap.size (w3.alloc (.cells (ncs N) 25)) W ∧ W.cell? ⟨w1.heap.size + 1, 4, none⟩ = some (.int .i64 2) ∧ (Ld 25 (.pointer (some ⟨w3.heap.size, 0, none⟩))).run Tryz.prog W = .ok (.agg (ncs N)) W)
    (first | exact HSx.out _ (Below.refl _ _).drew | (go_split_ands; exact HSx.out _ (bel_tr (by assumption) (by assumption))))
    ((go_split_ands; first | (go_at_call 10; (with_reducible refine (d1 _ (by assumption)).mono ?_); intro e w4 hp; obtain ⟨rfl, hb⟩ := hp) | (go_at_call 9; (with_reducible refine (d3 _ (by assumption)).mono ?_); intro e w4 hp; obtain ⟨rfl, hb⟩ := hp)))
  go_split_ands
  go_wp2
  go_ret
  exact ⟨rfl, HB5.out.trans (Below.mono (by assumption) HB5.out.size)⟩
set_option maxRecDepth 100000 in
set_option maxHeartbeats 4000000 in
theorem wrong_5 (w : World) : Calls Tryz.prog 5 #[.int .i64 5] w (PostR w (.bool true)) := by
  have hal := alive_any w
  have hsz : tx5.size = 30 := rfl
  have hcv := fun w : World => Lib.run_convert_string_bytes (P := Tryz.prog) w 9 33 5 tx5 Tryz.underlying9 Tryz.underlying33 Tryz.underlying5
  have hp := fun (c : Nat) (w : World) => rp_txt tx5_ok c w
  have hc := fun (N : Nd) (w : World) (hr : Pr.Rd w (treeF ((lexO tx5 80 0).getD [])).1 N) => chk_txt tx5_ok hr
  obtain ⟨T, hT⟩ : ∃ T, (treeF ((lexO tx5 80 0).getD [])).1 = T := ⟨_, rfl⟩
  rw [hT] at hp hc
  rw [hsz] at hp hcv
  unfold tx5 at hp hcv
  have HP := Lib.hid hp
  have HC := Lib.hid hc
  clear hp hc hT
  go_enter Tryz.func5, Tryz.ntmps5
  go_wp2_with (first | (go_at_call 7; (with_reducible refine hal.mono ?_); rintro e w1 ⟨rfl, hb1⟩; have HB1 := Lib.hid hb1; clear hb1) | (go_at_call 12; refine Hid.out ?_))
  refine Lib.hid ?_
  obtain ⟨w2, hw2⟩ : ∃ w2, w2 = (w1.alloc (.cells wS 9)).alloc (.cells wI 3) := ⟨_, rfl⟩
  have hs2 : w2.heap.size = w1.heap.size + 2 := by rw [hw2]; simp
  have hb2 : Below w1.heap.size w1 w2 := by rw [hw2]; exact bel1.trans (bel1.mono (by simp))
  have hcell : w2.cell? ⟨w1.heap.size + 1, 5, none⟩ = some (.int .i64 0) := by
    have hg : w2.heap[w1.heap.size + 1]? = some (.cells wI 3) := by
      rw [hw2]
      have := heap_alloc_new (w1.alloc (.cells wS 9)) (.cells wI 3)
      simpa using this
    simp only [World.cell?, hg]
    rfl
  have h := HP.out (grownCap w2 30 0 5) w2
  rw [hs2] at h
  rw [hw2] at h
  with_reducible refine h.mono ?_
  rintro e w3 ⟨N, rfl, hr, hb3⟩
  rw [← hw2, ← hs2] at hb3
  clear h hw2 hcv HP
  have bN := Blk.new w3 (ncs N) 25
  have hbx : Below w3.heap.size w3 (w3.alloc (.cells (ncs N) 25)) := bel1
  have hb4 : Below w2.heap.size w2 (w3.alloc (.cells (ncs N) 25)) := hb3.trans (hbx.mono hb3.size)
  have hb5 : Below w1.heap.size w1 (w3.alloc (.cells (ncs N) 25)) := hb2.trans (hb4.mono hb2.size)
  have d1 : ∀ W, Below (w3.alloc (.cells (ncs N) 25)).heap.size (w3.alloc (.cells (ncs N) 25)) W → Calls Tryz.prog 10 #[.agg (ncs N)] W (PostR W (.int .i64 0)) := fun W hb => HC.out N W (hr.below (hbx.trans (hb.mono hbx.size)))
  have d3 : ∀ W, Below (w3.alloc (.cells (ncs N) 25)).heap.size (w3.alloc (.cells (ncs N) 25)) W → Calls Tryz.prog 9 #[.int .i64 0] W (PostR W (.int .i64 0)) := fun W hb => (num_any 0 W).mono fun e w' ⟨h1, h2⟩ => ⟨h1, by rw [h2]; exact Below.refl _ _⟩
  have HSx : Hid (∀ W, Below (w3.alloc (.cells (ncs N) 25)).heap.size (w3.alloc (.cells (ncs N) 25)) W → (Below (w3.alloc (.cells (ncs N) 25)).heap.size (w3.alloc (.cells (ncs N) 25)) W ∧ W.cell? ⟨w1.heap.size + 1, 5, none⟩ = some (.int .i64 0) ∧ (Ld 25 (.pointer (some ⟨w3.heap.size, 0, none⟩))).run Tryz.prog W = .ok (.agg (ncs N)) W)) := Lib.hid fun W hb => ⟨hb, kept_cell (kept_below (hb4.trans (hb.mono hb4.size))) (by omega) hcell, run_ldN (bN.call hb)⟩
  have c0 := (HSx.out _ (Below.refl _ _)).2.1
  have l1 := (HSx.out _ (Below.refl _ _)).2.2
  have HB5 := Lib.hid (HB1.out.trans (hb5.mono HB1.out.size))
  clear hr hb3 hbx hb4 hb5 bN hcell hb2 hs2
  go_wp2
  go_region_held3 (fun W => Below (w3.alloc (.cells (ncs N) 25)).heap.size (w3.alloc (.cells (ncs N) 25)) W ∧ W.cell? ⟨w1.heap.size + 1, 5, none⟩ = some (.int .i64 0) ∧ (Ld 25 (.pointer (some ⟨w3.heap.size, 0, none⟩))).run Tryz.prog W = .ok (.agg (ncs N)) W)
    (first | exact HSx.out _ (Below.refl _ _).drew | (go_split_ands; exact HSx.out _ (bel_tr (by assumption) (by assumption))))
    ((go_split_ands; first | (go_at_call 10; (with_reducible refine (d1 _ (by assumption)).mono ?_); intro e w4 hp; obtain ⟨rfl, hb⟩ := hp) | (go_at_call 9; (with_reducible refine (d3 _ (by assumption)).mono ?_); intro e w4 hp; obtain ⟨rfl, hb⟩ := hp)))
  go_split_ands
  go_wp2
  go_ret
  exact ⟨rfl, HB5.out.trans (Below.mono (by assumption) HB5.out.size)⟩
set_option maxRecDepth 100000 in
set_option maxHeartbeats 4000000 in
theorem wrong_6 (w : World) : Calls Tryz.prog 5 #[.int .i64 6] w (PostR w (.bool true)) := by
  have hal := alive_any w
  have hsz : tx6.size = 13 := rfl
  have hcv := fun w : World => Lib.run_convert_string_bytes (P := Tryz.prog) w 9 33 5 tx6 Tryz.underlying9 Tryz.underlying33 Tryz.underlying5
  have hp := fun (c : Nat) (w : World) => rp_txt tx6_ok c w
  have hc := fun (N : Nd) (w : World) (hr : Pr.Rd w (treeF ((lexO tx6 80 0).getD [])).1 N) => chk_txt tx6_ok hr
  obtain ⟨T, hT⟩ : ∃ T, (treeF ((lexO tx6 80 0).getD [])).1 = T := ⟨_, rfl⟩
  rw [hT] at hp hc
  rw [hsz] at hp hcv
  unfold tx6 at hp hcv
  have HP := Lib.hid hp
  have HC := Lib.hid hc
  clear hp hc hT
  go_enter Tryz.func5, Tryz.ntmps5
  go_wp2_with (first | (go_at_call 7; (with_reducible refine hal.mono ?_); rintro e w1 ⟨rfl, hb1⟩; have HB1 := Lib.hid hb1; clear hb1) | (go_at_call 12; refine Hid.out ?_))
  refine Lib.hid ?_
  obtain ⟨w2, hw2⟩ : ∃ w2, w2 = (w1.alloc (.cells wS 9)).alloc (.cells wI 3) := ⟨_, rfl⟩
  have hs2 : w2.heap.size = w1.heap.size + 2 := by rw [hw2]; simp
  have hb2 : Below w1.heap.size w1 w2 := by rw [hw2]; exact bel1.trans (bel1.mono (by simp))
  have hcell : w2.cell? ⟨w1.heap.size + 1, 6, none⟩ = some (.int .i64 2) := by
    have hg : w2.heap[w1.heap.size + 1]? = some (.cells wI 3) := by
      rw [hw2]
      have := heap_alloc_new (w1.alloc (.cells wS 9)) (.cells wI 3)
      simpa using this
    simp only [World.cell?, hg]
    rfl
  have h := HP.out (grownCap w2 13 0 5) w2
  rw [hs2] at h
  rw [hw2] at h
  with_reducible refine h.mono ?_
  rintro e w3 ⟨N, rfl, hr, hb3⟩
  rw [← hw2, ← hs2] at hb3
  clear h hw2 hcv HP
  have bN := Blk.new w3 (ncs N) 25
  have hbx : Below w3.heap.size w3 (w3.alloc (.cells (ncs N) 25)) := bel1
  have hb4 : Below w2.heap.size w2 (w3.alloc (.cells (ncs N) 25)) := hb3.trans (hbx.mono hb3.size)
  have hb5 : Below w1.heap.size w1 (w3.alloc (.cells (ncs N) 25)) := hb2.trans (hb4.mono hb2.size)
  have d1 : ∀ W, Below (w3.alloc (.cells (ncs N) 25)).heap.size (w3.alloc (.cells (ncs N) 25)) W → Calls Tryz.prog 10 #[.agg (ncs N)] W (PostR W (.int .i64 2)) := fun W hb => HC.out N W (hr.below (hbx.trans (hb.mono hbx.size)))
  have d3 : ∀ W, Below (w3.alloc (.cells (ncs N) 25)).heap.size (w3.alloc (.cells (ncs N) 25)) W → Calls Tryz.prog 9 #[.int .i64 2] W (PostR W (.int .i64 2)) := fun W hb => (num_any 2 W).mono fun e w' ⟨h1, h2⟩ => ⟨h1, by rw [h2]; exact Below.refl _ _⟩
  have HSx : Hid (∀ W, Below (w3.alloc (.cells (ncs N) 25)).heap.size (w3.alloc (.cells (ncs N) 25)) W → (Below (w3.alloc (.cells (ncs N) 25)).heap.size (w3.alloc (.cells (ncs N) 25)) W ∧ W.cell? ⟨w1.heap.size + 1, 6, none⟩ = some (.int .i64 2) ∧ (Ld 25 (.pointer (some ⟨w3.heap.size, 0, none⟩))).run Tryz.prog W = .ok (.agg (ncs N)) W)) := Lib.hid fun W hb => ⟨hb, kept_cell (kept_below (hb4.trans (hb.mono hb4.size))) (by omega) hcell, run_ldN (bN.call hb)⟩
  have c0 := (HSx.out _ (Below.refl _ _)).2.1
  have l1 := (HSx.out _ (Below.refl _ _)).2.2
  have HB5 := Lib.hid (HB1.out.trans (hb5.mono HB1.out.size))
  clear hr hb3 hbx hb4 hb5 bN hcell hb2 hs2
  go_wp2
  go_region_held3 (fun W => Below (w3.alloc (.cells (ncs N) 25)).heap.size (w3.alloc (.cells (ncs N) 25)) W ∧ W.cell? ⟨w1.heap.size + 1, 6, none⟩ = some (.int .i64 2) ∧ (Ld 25 (.pointer (some ⟨w3.heap.size, 0, none⟩))).run Tryz.prog W = .ok (.agg (ncs N)) W)
    (first | exact HSx.out _ (Below.refl _ _).drew | (go_split_ands; exact HSx.out _ (bel_tr (by assumption) (by assumption))))
    ((go_split_ands; first | (go_at_call 10; (with_reducible refine (d1 _ (by assumption)).mono ?_); intro e w4 hp; obtain ⟨rfl, hb⟩ := hp) | (go_at_call 9; (with_reducible refine (d3 _ (by assumption)).mono ?_); intro e w4 hp; obtain ⟨rfl, hb⟩ := hp)))
  go_split_ands
  go_wp2
  go_ret
  exact ⟨rfl, HB5.out.trans (Below.mono (by assumption) HB5.out.size)⟩
set_option maxRecDepth 100000 in
set_option maxHeartbeats 4000000 in
theorem wrong_7 (w : World) : Calls Tryz.prog 5 #[.int .i64 7] w (PostR w (.bool true)) := by
  have hal := alive_any w
  have hsz : tx7.size = 17 := rfl
  have hcv := fun w : World => Lib.run_convert_string_bytes (P := Tryz.prog) w 9 33 5 tx7 Tryz.underlying9 Tryz.underlying33 Tryz.underlying5
  have hp := fun (c : Nat) (w : World) => rp_txt tx7_ok c w
  have hc := fun (N : Nd) (w : World) (hr : Pr.Rd w (treeF ((lexO tx7 80 0).getD [])).1 N) => chk_txt tx7_ok hr
  obtain ⟨T, hT⟩ : ∃ T, (treeF ((lexO tx7 80 0).getD [])).1 = T := ⟨_, rfl⟩
  rw [hT] at hp hc
  rw [hsz] at hp hcv
  unfold tx7 at hp hcv
  have HP := Lib.hid hp
  have HC := Lib.hid hc
  clear hp hc hT
  go_enter Tryz.func5, Tryz.ntmps5
  go_wp2_with (first | (go_at_call 7; (with_reducible refine hal.mono ?_); rintro e w1 ⟨rfl, hb1⟩; have HB1 := Lib.hid hb1; clear hb1) | (go_at_call 12; refine Hid.out ?_))
  refine Lib.hid ?_
  obtain ⟨w2, hw2⟩ : ∃ w2, w2 = (w1.alloc (.cells wS 9)).alloc (.cells wI 3) := ⟨_, rfl⟩
  have hs2 : w2.heap.size = w1.heap.size + 2 := by rw [hw2]; simp
  have hb2 : Below w1.heap.size w1 w2 := by rw [hw2]; exact bel1.trans (bel1.mono (by simp))
  have hcell : w2.cell? ⟨w1.heap.size + 1, 7, none⟩ = some (.int .i64 0) := by
    have hg : w2.heap[w1.heap.size + 1]? = some (.cells wI 3) := by
      rw [hw2]
      have := heap_alloc_new (w1.alloc (.cells wS 9)) (.cells wI 3)
      simpa using this
    simp only [World.cell?, hg]
    rfl
  have h := HP.out (grownCap w2 17 0 5) w2
  rw [hs2] at h
  rw [hw2] at h
  with_reducible refine h.mono ?_
  rintro e w3 ⟨N, rfl, hr, hb3⟩
  rw [← hw2, ← hs2] at hb3
  clear h hw2 hcv HP
  have bN := Blk.new w3 (ncs N) 25
  have hbx : Below w3.heap.size w3 (w3.alloc (.cells (ncs N) 25)) := bel1
  have hb4 : Below w2.heap.size w2 (w3.alloc (.cells (ncs N) 25)) := hb3.trans (hbx.mono hb3.size)
  have hb5 : Below w1.heap.size w1 (w3.alloc (.cells (ncs N) 25)) := hb2.trans (hb4.mono hb2.size)
  have d1 : ∀ W, Below (w3.alloc (.cells (ncs N) 25)).heap.size (w3.alloc (.cells (ncs N) 25)) W → Calls Tryz.prog 10 #[.agg (ncs N)] W (PostR W (.int .i64 0)) := fun W hb => HC.out N W (hr.below (hbx.trans (hb.mono hbx.size)))
  have d3 : ∀ W, Below (w3.alloc (.cells (ncs N) 25)).heap.size (w3.alloc (.cells (ncs N) 25)) W → Calls Tryz.prog 9 #[.int .i64 0] W (PostR W (.int .i64 0)) := fun W hb => (num_any 0 W).mono fun e w' ⟨h1, h2⟩ => ⟨h1, by rw [h2]; exact Below.refl _ _⟩
  have HSx : Hid (∀ W, Below (w3.alloc (.cells (ncs N) 25)).heap.size (w3.alloc (.cells (ncs N) 25)) W → (Below (w3.alloc (.cells (ncs N) 25)).heap.size (w3.alloc (.cells (ncs N) 25)) W ∧ W.cell? ⟨w1.heap.size + 1, 7, none⟩ = some (.int .i64 0) ∧ (Ld 25 (.pointer (some ⟨w3.heap.size, 0, none⟩))).run Tryz.prog W = .ok (.agg (ncs N)) W)) := Lib.hid fun W hb => ⟨hb, kept_cell (kept_below (hb4.trans (hb.mono hb4.size))) (by omega) hcell, run_ldN (bN.call hb)⟩
  have c0 := (HSx.out _ (Below.refl _ _)).2.1
  have l1 := (HSx.out _ (Below.refl _ _)).2.2
  have HB5 := Lib.hid (HB1.out.trans (hb5.mono HB1.out.size))
  clear hr hb3 hbx hb4 hb5 bN hcell hb2 hs2
  go_wp2
  go_region_held3 (fun W => Below (w3.alloc (.cells (ncs N) 25)).heap.size (w3.alloc (.cells (ncs N) 25)) W ∧ W.cell? ⟨w1.heap.size + 1, 7, none⟩ = some (.int .i64 0) ∧ (Ld 25 (.pointer (some ⟨w3.heap.size, 0, none⟩))).run Tryz.prog W = .ok (.agg (ncs N)) W)
    (first | exact HSx.out _ (Below.refl _ _).drew | (go_split_ands; exact HSx.out _ (bel_tr (by assumption) (by assumption))))
    ((go_split_ands; first | (go_at_call 10; (with_reducible refine (d1 _ (by assumption)).mono ?_); intro e w4 hp; obtain ⟨rfl, hb⟩ := hp) | (go_at_call 9; (with_reducible refine (d3 _ (by assumption)).mono ?_); intro e w4 hp; obtain ⟨rfl, hb⟩ := hp)))
  go_split_ands
  go_wp2
  go_ret
  exact ⟨rfl, HB5.out.trans (Below.mono (by assumption) HB5.out.size)⟩
set_option maxRecDepth 100000 in
set_option maxHeartbeats 4000000 in
theorem wrong_8 (w : World) : Calls Tryz.prog 5 #[.int .i64 8] w (PostR w (.bool true)) := by
  have hal := alive_any w
  have hsz : tx8.size = 29 := rfl
  have hcv := fun w : World => Lib.run_convert_string_bytes (P := Tryz.prog) w 9 33 5 tx8 Tryz.underlying9 Tryz.underlying33 Tryz.underlying5
  have hp := fun (c : Nat) (w : World) => rp_txt tx8_ok c w
  have hc := fun (N : Nd) (w : World) (hr : Pr.Rd w (treeF ((lexO tx8 80 0).getD [])).1 N) => chk_txt tx8_ok hr
  obtain ⟨T, hT⟩ : ∃ T, (treeF ((lexO tx8 80 0).getD [])).1 = T := ⟨_, rfl⟩
  rw [hT] at hp hc
  rw [hsz] at hp hcv
  unfold tx8 at hp hcv
  have HP := Lib.hid hp
  have HC := Lib.hid hc
  clear hp hc hT
  go_enter Tryz.func5, Tryz.ntmps5
  go_wp2_with (first | (go_at_call 7; (with_reducible refine hal.mono ?_); rintro e w1 ⟨rfl, hb1⟩; have HB1 := Lib.hid hb1; clear hb1) | (go_at_call 12; refine Hid.out ?_))
  refine Lib.hid ?_
  obtain ⟨w2, hw2⟩ : ∃ w2, w2 = (w1.alloc (.cells wS 9)).alloc (.cells wI 3) := ⟨_, rfl⟩
  have hs2 : w2.heap.size = w1.heap.size + 2 := by rw [hw2]; simp
  have hb2 : Below w1.heap.size w1 w2 := by rw [hw2]; exact bel1.trans (bel1.mono (by simp))
  have hcell : w2.cell? ⟨w1.heap.size + 1, 8, none⟩ = some (.int .i64 2) := by
    have hg : w2.heap[w1.heap.size + 1]? = some (.cells wI 3) := by
      rw [hw2]
      have := heap_alloc_new (w1.alloc (.cells wS 9)) (.cells wI 3)
      simpa using this
    simp only [World.cell?, hg]
    rfl
  have h := HP.out (grownCap w2 29 0 5) w2
  rw [hs2] at h
  rw [hw2] at h
  with_reducible refine h.mono ?_
  rintro e w3 ⟨N, rfl, hr, hb3⟩
  rw [← hw2, ← hs2] at hb3
  clear h hw2 hcv HP
  have bN := Blk.new w3 (ncs N) 25
  have hbx : Below w3.heap.size w3 (w3.alloc (.cells (ncs N) 25)) := bel1
  have hb4 : Below w2.heap.size w2 (w3.alloc (.cells (ncs N) 25)) := hb3.trans (hbx.mono hb3.size)
  have hb5 : Below w1.heap.size w1 (w3.alloc (.cells (ncs N) 25)) := hb2.trans (hb4.mono hb2.size)
  have d1 : ∀ W, Below (w3.alloc (.cells (ncs N) 25)).heap.size (w3.alloc (.cells (ncs N) 25)) W → Calls Tryz.prog 10 #[.agg (ncs N)] W (PostR W (.int .i64 2)) := fun W hb => HC.out N W (hr.below (hbx.trans (hb.mono hbx.size)))
  have d3 : ∀ W, Below (w3.alloc (.cells (ncs N) 25)).heap.size (w3.alloc (.cells (ncs N) 25)) W → Calls Tryz.prog 9 #[.int .i64 2] W (PostR W (.int .i64 2)) := fun W hb => (num_any 2 W).mono fun e w' ⟨h1, h2⟩ => ⟨h1, by rw [h2]; exact Below.refl _ _⟩
  have HSx : Hid (∀ W, Below (w3.alloc (.cells (ncs N) 25)).heap.size (w3.alloc (.cells (ncs N) 25)) W → (Below (w3.alloc (.cells (ncs N) 25)).heap.size (w3.alloc (.cells (ncs N) 25)) W ∧ W.cell? ⟨w1.heap.size + 1, 8, none⟩ = some (.int .i64 2) ∧ (Ld 25 (.pointer (some ⟨w3.heap.size, 0, none⟩))).run Tryz.prog W = .ok (.agg (ncs N)) W)) := Lib.hid fun W hb => ⟨hb, kept_cell (kept_below (hb4.trans (hb.mono hb4.size))) (by omega) hcell, run_ldN (bN.call hb)⟩
  have c0 := (HSx.out _ (Below.refl _ _)).2.1
  have l1 := (HSx.out _ (Below.refl _ _)).2.2
  have HB5 := Lib.hid (HB1.out.trans (hb5.mono HB1.out.size))
  clear hr hb3 hbx hb4 hb5 bN hcell hb2 hs2
  go_wp2
  go_region_held3 (fun W => Below (w3.alloc (.cells (ncs N) 25)).heap.size (w3.alloc (.cells (ncs N) 25)) W ∧ W.cell? ⟨w1.heap.size + 1, 8, none⟩ = some (.int .i64 2) ∧ (Ld 25 (.pointer (some ⟨w3.heap.size, 0, none⟩))).run Tryz.prog W = .ok (.agg (ncs N)) W)
    (first | exact HSx.out _ (Below.refl _ _).drew | (go_split_ands; exact HSx.out _ (bel_tr (by assumption) (by assumption))))
    ((go_split_ands; first | (go_at_call 10; (with_reducible refine (d1 _ (by assumption)).mono ?_); intro e w4 hp; obtain ⟨rfl, hb⟩ := hp) | (go_at_call 9; (with_reducible refine (d3 _ (by assumption)).mono ?_); intro e w4 hp; obtain ⟨rfl, hb⟩ := hp)))
  go_split_ands
  go_wp2
  go_ret
  exact ⟨rfl, HB5.out.trans (Below.mono (by assumption) HB5.out.size)⟩
set_option maxRecDepth 100000 in
set_option maxHeartbeats 4000000 in
theorem wrong_9 (w : World) : Calls Tryz.prog 5 #[.int .i64 9] w (PostR w (.bool true)) := by
  have hal := alive_any w
  have hsz : tx9.size = 20 := rfl
  have hcv := fun w : World => Lib.run_convert_string_bytes (P := Tryz.prog) w 9 33 5 tx9 Tryz.underlying9 Tryz.underlying33 Tryz.underlying5
  have hp := fun (c : Nat) (w : World) => rp_txt tx9_ok c w
  have hc := fun (N : Nd) (w : World) (hr : Pr.Rd w (treeF ((lexO tx9 80 0).getD [])).1 N) => chk_txt tx9_ok hr
  obtain ⟨T, hT⟩ : ∃ T, (treeF ((lexO tx9 80 0).getD [])).1 = T := ⟨_, rfl⟩
  rw [hT] at hp hc
  rw [hsz] at hp hcv
  unfold tx9 at hp hcv
  have HP := Lib.hid hp
  have HC := Lib.hid hc
  clear hp hc hT
  go_enter Tryz.func5, Tryz.ntmps5
  go_wp2_with (first | (go_at_call 7; (with_reducible refine hal.mono ?_); rintro e w1 ⟨rfl, hb1⟩; have HB1 := Lib.hid hb1; clear hb1) | (go_at_call 12; refine Hid.out ?_))
  refine Lib.hid ?_
  obtain ⟨w2, hw2⟩ : ∃ w2, w2 = (w1.alloc (.cells wS 9)).alloc (.cells wI 3) := ⟨_, rfl⟩
  have hs2 : w2.heap.size = w1.heap.size + 2 := by rw [hw2]; simp
  have hb2 : Below w1.heap.size w1 w2 := by rw [hw2]; exact bel1.trans (bel1.mono (by simp))
  have hcell : w2.cell? ⟨w1.heap.size + 1, 9, none⟩ = some (.int .i64 2) := by
    have hg : w2.heap[w1.heap.size + 1]? = some (.cells wI 3) := by
      rw [hw2]
      have := heap_alloc_new (w1.alloc (.cells wS 9)) (.cells wI 3)
      simpa using this
    simp only [World.cell?, hg]
    rfl
  have h := HP.out (grownCap w2 20 0 5) w2
  rw [hs2] at h
  rw [hw2] at h
  with_reducible refine h.mono ?_
  rintro e w3 ⟨N, rfl, hr, hb3⟩
  rw [← hw2, ← hs2] at hb3
  clear h hw2 hcv HP
  have bN := Blk.new w3 (ncs N) 25
  have hbx : Below w3.heap.size w3 (w3.alloc (.cells (ncs N) 25)) := bel1
  have hb4 : Below w2.heap.size w2 (w3.alloc (.cells (ncs N) 25)) := hb3.trans (hbx.mono hb3.size)
  have hb5 : Below w1.heap.size w1 (w3.alloc (.cells (ncs N) 25)) := hb2.trans (hb4.mono hb2.size)
  have d1 : ∀ W, Below (w3.alloc (.cells (ncs N) 25)).heap.size (w3.alloc (.cells (ncs N) 25)) W → Calls Tryz.prog 10 #[.agg (ncs N)] W (PostR W (.int .i64 2)) := fun W hb => HC.out N W (hr.below (hbx.trans (hb.mono hbx.size)))
  have d3 : ∀ W, Below (w3.alloc (.cells (ncs N) 25)).heap.size (w3.alloc (.cells (ncs N) 25)) W → Calls Tryz.prog 9 #[.int .i64 2] W (PostR W (.int .i64 2)) := fun W hb => (num_any 2 W).mono fun e w' ⟨h1, h2⟩ => ⟨h1, by rw [h2]; exact Below.refl _ _⟩
  have HSx : Hid (∀ W, Below (w3.alloc (.cells (ncs N) 25)).heap.size (w3.alloc (.cells (ncs N) 25)) W → (Below (w3.alloc (.cells (ncs N) 25)).heap.size (w3.alloc (.cells (ncs N) 25)) W ∧ W.cell? ⟨w1.heap.size + 1, 9, none⟩ = some (.int .i64 2) ∧ (Ld 25 (.pointer (some ⟨w3.heap.size, 0, none⟩))).run Tryz.prog W = .ok (.agg (ncs N)) W)) := Lib.hid fun W hb => ⟨hb, kept_cell (kept_below (hb4.trans (hb.mono hb4.size))) (by omega) hcell, run_ldN (bN.call hb)⟩
  have c0 := (HSx.out _ (Below.refl _ _)).2.1
  have l1 := (HSx.out _ (Below.refl _ _)).2.2
  have HB5 := Lib.hid (HB1.out.trans (hb5.mono HB1.out.size))
  clear hr hb3 hbx hb4 hb5 bN hcell hb2 hs2
  go_wp2
  go_region_held3 (fun W => Below (w3.alloc (.cells (ncs N) 25)).heap.size (w3.alloc (.cells (ncs N) 25)) W ∧ W.cell? ⟨w1.heap.size + 1, 9, none⟩ = some (.int .i64 2) ∧ (Ld 25 (.pointer (some ⟨w3.heap.size, 0, none⟩))).run Tryz.prog W = .ok (.agg (ncs N)) W)
    (first | exact HSx.out _ (Below.refl _ _).drew | (go_split_ands; exact HSx.out _ (bel_tr (by assumption) (by assumption))))
    ((go_split_ands; first | (go_at_call 10; (with_reducible refine (d1 _ (by assumption)).mono ?_); intro e w4 hp; obtain ⟨rfl, hb⟩ := hp) | (go_at_call 9; (with_reducible refine (d3 _ (by assumption)).mono ?_); intro e w4 hp; obtain ⟨rfl, hb⟩ := hp)))
  go_split_ands
  go_wp2
  go_ret
  exact ⟨rfl, HB5.out.trans (Below.mono (by assumption) HB5.out.size)⟩
end Go.Proofs.YtinoaajohkafmaaGreat.Ey
