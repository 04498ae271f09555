/-
  create: a new object.
-/
import Derived.Test.YtoakiejpmcgdjaaGreatDoorMoSmall
import Derived.Test.YtoakiejpmcgdjaaGreatDoorHpClone
namespace Go.Proofs.YtoakiejpmcgdjaaGreatDoor.Mo
open Go Go.RowKit Go.Maps Go.Shelf Go.Proofs.YtoakiejpmcgdjaaGreatDoor.Keys Go.Proofs.YtoakiejpmcgdjaaGreatDoor.Hp
set_option linter.unusedVariables false
set_option linter.unusedSimpArgs false
attribute [local go_sem ↓] ldR stR alR bxR bdR ldV stV alV bxV bdV bdT
attribute [local irreducible] rcs dcs ecs vcs tcs
attribute [local go_sem] run_bx run_alR run_alV run_bdR0 run_bdR1 run_bdV0 run_bdTn

theorem data_anyv (v : Vl) (a b c : Bool) (w : World) : Calls Tryz.prog 31 #[.agg (vcs v), .bool a, .bool b, .bool c] w fun e w' => e = .returned (.agg (dcs (dataD v a b c))) ∧ Below w.heap.size w w' := by
  have h := data_any v a b c w
  unfold vcs
  exact h
/-- Every old block stays but what X names. -/
structure Stay (X : Nat → Prop) (w w' : World) : Prop where
  size : w.heap.size ≤ w'.heap.size
  block : ∀ b, b < w.heap.size → ¬ X b → w'.heap[b]? = w.heap[b]?
theorem Stay.refl (X : Nat → Prop) (w : World) : Stay X w w := ⟨Nat.le_refl _, fun _ _ _ => rfl⟩
theorem Stay.trans {X : Nat → Prop} {w w' w'' : World} (h : Stay X w w') (k : Stay X w' w'') : Stay X w w'' := ⟨Nat.le_trans h.size k.size, fun b hb hx => (k.block b (Nat.lt_of_lt_of_le hb h.size) hx).trans (h.block b hb hx)⟩
theorem Stay.call {X : Nat → Prop} {w w' w'' : World} (h : Stay X w w') (k : Below w'.heap.size w' w'') : Stay X w w'' := ⟨Nat.le_trans h.size k.size, fun b hb hx => (k.block b (Nat.lt_of_lt_of_le hb h.size)).trans (h.block b hb hx)⟩
theorem Stay.row {X : Nat → Prop} {w w' : World} (h : Stay X w w') {b : Nat} (cs : Array Value) (hb : w.heap.size ≤ b) : Stay X w (w'.setRow b cs) := ⟨by rw [size_setRow]; exact h.size, fun c hc hx => (setRow_other w' b c cs (by omega)).trans (h.block c hc hx)⟩
theorem Stay.blk {X : Nat → Prop} {w w' : World} (h : Stay X w w') {b : Nat} {cs : Array Value} {t : TypeId} (hb : Blk w b cs t) (hx : ¬ X b) : Blk w' b cs t := (h.block b hb.lt hx).trans hb
theorem below_row {B : Nat} {w w' : World} (h : Below B w w') {b : Nat} (cs : Array Value) (hb : B ≤ b) : Below B w (w'.setRow b cs) := by
  refine ⟨h.os, h.tape, h.output, ?_, fun c hc => (setRow_other w' b c cs (by omega)).trans (h.block c hc)⟩
  rw [size_setRow]
  exact h.size
theorem ow_ne {w : World} {base b : Nat} {t : TypeId} {v : Value} {n : Nat} {xs : List Value} {cs : Array Value} (h : w.ownsRow base 130 1 v n xs) (hb : Blk w b cs t) (hte : t ≠ 130) : ¬ some b = v.ownBlock := fun e => own_ne h hb hte e.symm
theorem store_new (kd : Int) (pv : Vl) (pa : Option Addr) (pc : Nat) (es : List En) (w : World) (hlen : es.length ≤ 100) (hes : EsAt w.heap.size pa es w) (hf : ∀ e ∈ es, Fine (ekey e)) : ∀ w', Below w.heap.size w w' → Calls Tryz.prog 58 #[.agg (tcs (newT kd pv (.slice pa es.length pc)))] w' (StorePost w' (newT kd pv (.slice pa es.length pc)) es []) := fun w' hb =>
  store_any (newT kd pv (.slice pa es.length pc)) pa es.length pc none 0 0 es [] w' rfl rfl (fun w2 h2 => collect_any pa pc es w2 hlen (((hes.below hb).mono hb.size |>.below h2).mono h2.size) hf) (fun w2 _ => clone_nil' w2)
set_option maxRecDepth 100000 in
set_option maxHeartbeats 2000000 in
theorem create_any (base wb hb : Nat) (cl : Value) (f d p q : Int) (lg : Value) (room : Int) (a : Option Addr) (k c : Nat) (sy : Int) (xs : List Value) (kd : Int) (pv : Vl) (pa : Option Addr) (pc : Nat) (es : List En) (w : World)
    (hw : Blk w wb (wcs hb cl f d p q lg) 44) (hblk : Blk w hb (hp room (.slice a k c) sy) 57) (hbase : base ≤ hb) (hrow : w.ownsRow base 130 1 (.slice a k c) k xs) (hk : k ≤ 1000) (hr : (k : Int) < room)
    (hlen : es.length ≤ 100) (hes : EsAt w.heap.size pa es w) (hf : ∀ e ∈ es, Fine (ekey e)) :
    Calls Tryz.prog 29 #[ptr wb, .int .i64 kd, .agg (vcs pv), .slice pa es.length pc] w fun e w' => e = .returned (.tuple #[.agg (vcs ⟨6, k, ⟨#[]⟩⟩), .agg (rcs zeroR)]) ∧ Below base w w' ∧ Stay (fun b => b = hb ∨ some b = (Value.slice a k c).ownBlock) w w' := by
  obtain ⟨w1, hw1⟩ : ∃ w1, ((w.alloc (.cells (vcs pv) 30)).alloc (.cells (vcs zeroV) 30)).alloc (.cells (rcs zeroR) 35) = w1 := ⟨_, rfl⟩
  have k1 : w1.heap.size = w.heap.size + 3 := by rw [← hw1]; simp
  have b1 : Below w.heap.size w w1 := by rw [← hw1]; exact (((Below.refl _ w).alloc (Nat.le_refl _) _).alloc (by simp) _).alloc (by simp; omega) _
  have x0 : Blk w1 w.heap.size (vcs pv) 30 := by rw [← hw1]; exact ((Blk.new w _ _).old _).old _
  have x1 : Blk w1 (w.heap.size + 1) (vcs zeroV) 30 := by rw [← hw1]; exact (blk_newg (by simp)).old _
  have x2 : Blk w1 (w.heap.size + 2) (rcs zeroR) 35 := by rw [← hw1]; exact blk_newg (by simp)
  have lv := run_ldVp x0.drew
  have hst := store_world wb hb cl f d p q lg w1.drew (hw.call b1.drew)
  have hrow1 : w1.drew.ownsRow base 130 1 (.slice a k c) k xs := own_below hrow b1.drew
  have hblk1 : Blk w1.drew hb (hp room (.slice a k c) sy) 57 := hblk.call b1.drew
  have hes1 : EsAt w1.drew.heap.size pa es w1.drew := (hes.below b1.drew).mono b1.size
  have hmk := make_any base hb room a k c sy xs (newT kd pv (.slice pa es.length pc)) es [] w1.drew hblk1 hbase hrow1 hk hr (store_new kd pv pa pc es w1.drew hlen hes1 hf)
  have hmk2 : Calls Tryz.prog 46 #[ptr hb, .agg (tcs (newT kd pv (.slice pa es.length pc)))] w1.drew fun e w' => e = .returned (.tuple #[.int .i64 k, .bool true]) ∧ Below base w1.drew w' ∧ Stay (fun b => b = hb ∨ some b = (Value.slice a k c).ownBlock) w1.drew w' := by
    refine hmk.mono ?_
    rintro e w' ⟨rfl, g, c1, h1, ob, pb, mb, ns, a2, m2, c2, h2, h3, h4, h5⟩
    exact ⟨rfl, h4, h4.size, fun b hb1 hx => h5 b hb1 (fun e => hx (.inl e)) (fun e => hx (.inr e))⟩
  have hbd : ∀ w' : World, (Bd 100 #[(0, .int .i64 kd), (1, .agg (vcs pv)), (2, .bool true), (3, .slice pa es.length pc)]).run Tryz.prog w' = .ok (.agg (tcs (newT kd pv (.slice pa es.length pc)))) w' := fun w' => run_bdTn w' kd pv true pa es.length pc
  have X1 := Lib.hid (show Blk w1.drew (w.heap.size + 1) (vcs zeroV) 30 from x1)
  have X2 := Lib.hid (show Blk w1.drew (w.heap.size + 2) (rcs zeroR) 35 from x2)
  have N1 := Lib.hid (show ¬ (w.heap.size + 1 = hb ∨ some (w.heap.size + 1) = (Value.slice a k c).ownBlock) from fun e => e.elim (fun e => by have := hblk.lt; omega) (fun e => ow_ne hrow1 (show Blk w1.drew (w.heap.size + 1) (vcs zeroV) 30 from x1) (by decide) e))
  have N2 := Lib.hid (show ¬ (w.heap.size + 2 = hb ∨ some (w.heap.size + 2) = (Value.slice a k c).ownBlock) from fun e => e.elim (fun e => by have := hblk.lt; omega) (fun e => ow_ne hrow1 (show Blk w1.drew (w.heap.size + 2) (rcs zeroR) 35 from x2) (by decide) e))
  have B1 := Lib.hid (show Below w.heap.size w w1.drew from b1.drew)
  have HS := Lib.hid (show base ≤ w.heap.size from by have := hblk.lt; omega)
  clear hmk hrow1 hblk1 hes1 hrow hblk hw hes hf x0 x1 x2 b1 hr hk hlen
  go_enter Tryz.func29, Tryz.ntmps29
  go_wp2
  go_region_with (first | (go_at_call 45; refine hst.mono ?_; rintro e w2 ⟨rfl, rfl⟩) | (go_at_call 46; refine hmk2.mono ?_; rintro e w4 ⟨rfl, hb4, hs4⟩))
  all_goals
    have y1 := hs4.blk X1.out N1.out
    have y2 := hs4.blk X2.out N2.out
    have HS4 := Lib.hid hs4
    have HB4 := Lib.hid hb4
    clear hs4 hb4 hst hmk2 lv hbd hw1
    go_wp2_with (go_at_call 47; refine (objv_any _ _).mono ?_; rintro e w5 ⟨rfl, hb5⟩; have z1 := y1.call hb5; have z2 := y2.call hb5; have s1 := run_stVp (v := ⟨6, k, ⟨#[]⟩⟩) z1; have z3 := z1.row (vcs ⟨6, k, ⟨#[]⟩⟩); have z4 := z2.row_other (vcs ⟨6, k, ⟨#[]⟩⟩) (by omega : w.heap.size + 2 ≠ w.heap.size + 1); have s2 := run_stRp z4 zeroR_good; have HB5 := Lib.hid hb5; clear hb5 z1 z2 y1 y2)
    have z5 := z3.row_other (rcs zeroR) (by omega : w.heap.size + 1 ≠ w.heap.size + 2)
    have b4 := HB4.out.size
    have b1s := B1.out.size
    refine bodyPost_ret (res_VR rfl _ _ (w.heap.size + 1) (w.heap.size + 2) ⟨6, k, ⟨#[]⟩⟩ zeroR rfl rfl z5 (z4.row (rcs zeroR))) rfl ⟨rfl, ?_, ?_⟩
    · exact below_row (below_row (((B1.out.mono HS.out).trans HB4.out).trans (HB5.out.mono (by have := HS.out; omega))) _ (by have := HS.out; omega)) _ (by have := HS.out; omega)
    · exact ((((show Stay _ w w1.drew from ⟨B1.out.size, fun b hb _ => B1.out.block b hb⟩).trans HS4.out).call HB5.out).row _ (by omega)).row _ (by omega)
end Go.Proofs.YtoakiejpmcgdjaaGreatDoor.Mo
