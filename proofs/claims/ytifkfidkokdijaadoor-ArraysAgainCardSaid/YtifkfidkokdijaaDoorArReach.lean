/-
  arrays.reached: the length at which Cut stops.
-/
import Derived.Test.YtifkfidkokdijaaDoorArSpec
namespace Go.Proofs.YtifkfidkokdijaaDoor.Arrs
open Go Go.RowKit Go.Maps Go.Proofs.YtifkfidkokdijaaDoor.Nums Go.Proofs.YtifkfidkokdijaaDoor.Keys
set_option linter.unusedVariables false
set_option linter.unusedSimpArgs false
attribute [local go_sem ↓] to_ldE to_alE to_stE to_bsE run_eqE
attribute [local irreducible] ecs zer
attribute [local go_sem] run_alE run_stE run_bsE ecs_0 ecs_1 ecs_10 ecs_19

/-- What a call of Index ends in. -/
def IdxIs (e : En) (n : Int) (ok : Bool) : Prop := ∀ w, Lw w → Calls Tryd.prog 12 #[.agg #[.string e.ks, .int .i64 e.kn]] w fun x w' => x = .returned (.tuple #[.int .i64 n, .bool ok]) ∧ Below w.heap.size w w'
theorem IdxIs.at {e : En} {n : Int} {ok : Bool} (h : IdxIs e n ok) {w : World} (hL : Lw w) : Calls Tryd.prog 12 #[.agg #[.string e.ks, .int .i64 e.kn]] w fun x w' => x = .returned (.tuple #[.int .i64 n, .bool ok]) ∧ Below w.heap.size w w' := h w hL
theorem index_en (e : En) (hk : e.ks.size ≤ 281474976710656) : IdxIs e ((idxE e).getD 0) (idxE e).isSome := fun w hL => by
  unfold idxE
  split
  · rename_i h
    rw [h]
    exact index_str e.ks hk w hL
  · rename_i h
    exact index_sym e.ks e.kn (by simpa using h) w
theorem idx_none {e : En} (hk : e.ks.size ≤ 281474976710656) (h : idxE e = none) : IdxIs e 0 false := by have := index_en e hk; rw [h] at this; exact this
theorem idx_some {e : En} {i : Int} (hk : e.ks.size ≤ 281474976710656) (h : idxE e = some i) : IdxIs e i true := by have := index_en e hk; rw [h] at this; exact this
theorem size_al {w : World} {B : Nat} (o : Obj) (h : B ≤ w.heap.size) : B ≤ (w.alloc o).heap.size := by simp; omega
theorem bel_next {B : Nat} {w w1 w2 : World} {o : Obj} (h : Below B w w1) (hB : B ≤ w1.heap.size) (h2 : Below (w1.alloc o).heap.size (w1.alloc o) w2) : Below B w w2 :=
  (h.alloc hB o).trans (h2.mono (size_al o hB))
theorem new_at {w w1 : World} {e : En} {t : TypeId} (hb : Below (w.alloc (.cells (ecs e) t)).heap.size (w.alloc (.cells (ecs e) t)) w1) : enAt w1 ⟨w.heap.size, 0, none⟩ e :=
  enAt_below (enAt_new w e t) hb (by simp)
theorem new_cell19 {w w1 : World} {e : En} {t : TypeId} (hb : Below (w.alloc (.cells (ecs e) t)).heap.size (w.alloc (.cells (ecs e) t)) w1) : w1.cell? ⟨w.heap.size, 19, none⟩ = some (.bool e.d.c) := by
  have h := enAt_cell (o := 0) (new_at hb) 19 _ (ecs_19 e)
  simpa using h

set_option maxRecDepth 100000 in
set_option maxHeartbeats 2000000 in
theorem reached_any (ao : Option Addr) (cap : Nat) (es : List En) (w : World) (t0 : Int) (hL : Lw w) (hlen : es.length ≤ 1000000) (hc : EsAt ao es w) (hf : ∀ e ∈ es, e.ks.size ≤ 281474976710656) (h0 : t0 ≤ 9223372036854775807) (h1 : 0 ≤ t0) :
    Calls Tryd.prog 11 #[.slice ao es.length cap, .int .i64 t0] w fun x w' => x = .returned (.int .i64 (reachF es t0)) ∧ Below w.heap.size w w' := by
  have HC := Lib.hid hc
  have HF := Lib.hid hf
  have HL := Lib.hid hL
  clear hc hf hL
  go_enter Tryd.func11, Tryd.ntmps11
  go_wp2
  go_loopw [1, 11] (fun t i wr => ∃ j : Nat, j ≤ es.length ∧ i = .int .i64 j ∧ t = .int .i64 (reachF (es.take j) t0) ∧ Below w.heap.size w wr) (fun _ i _ => es.length - (intOf i).toNat)
  case atStart => exact ⟨0, Nat.zero_le _, rfl, rfl, Below.refl _ _⟩
  case round =>
    obtain ⟨j, hj, rfl, rfl, hbx⟩ := hrel
    by_cases hlt : j < es.length
    · obtain ⟨e, he⟩ : ∃ e, es[j]? = some e := ⟨es[j], by simp [hlt]⟩
      have hlt2 : (j : Int) < es.length := by omega
      obtain ⟨b, off, rfl, hb, hat⟩ := (HC.out.below hbx) j e he
      have l0 := run_ldE hat
      have hk := HF.out e (List.mem_of_getElem? he)
      have hge := reach_ge (es.take j) t0
      have hle := reach_le (es.take j) (M := 9223372036854775807) h0 (by omega)
      obtain ⟨r, hr⟩ : ∃ r, reachF (es.take j) t0 = r := ⟨_, rfl⟩
      have hnx := reach_take he t0
      rw [hr] at hge hle hnx
      rw [hr]
      have HNX := Lib.hid hnx
      have HE := Lib.hid he
      have HB := Lib.hid hb
      clear hr hnx he hat hb
      cases hi : idxE e with
      | none =>
        have hix := idx_none hk hi
        have HI := Lib.hid hi
        have HIX := Lib.hid hix
        clear hi hix
        have L1 := HL.out.below (hbx.alloc hbx.size (.cells (ecs e) 39))
        go_wp2_with (go_at_call 12; refine (HIX.out.at L1).mono ?_; rintro x w2 ⟨rfl, hb2⟩; have hb3 := bel_next hbx hbx.size hb2; clear L1 hb2)
        go_roundw
        case rel => exact ⟨j + 1, by omega, by go_num, by rw [HNX.out, step_none HI.out], hb3⟩
        case measure => simp [intOf]; omega
      | some i =>
        have hix := idx_some hk hi
        have hbi := idxE_bd hi
        have HI := Lib.hid hi
        have HIX := Lib.hid hix
        clear hi hix
        have L1 := HL.out.below (hbx.alloc hbx.size (.cells (ecs e) 39))
        cases hc : e.d.c with
        | true =>
          go_wp2_with (go_at_call 12; refine (HIX.out.at L1).mono ?_; rintro x w2 ⟨rfl, hb2⟩; have hb3 := bel_next hbx hbx.size hb2; have c19 := new_cell19 hb2; rw [hc] at c19; clear L1 hb2)
          go_roundw
          case rel => exact ⟨j + 1, by omega, by go_num, by rw [HNX.out, step_free HI.out hc], hb3⟩
          case measure => simp [intOf]; omega
        | false =>
          by_cases hl : r < i + 1
          · go_wp2_with (go_at_call 12; refine (HIX.out.at L1).mono ?_; rintro x w2 ⟨rfl, hb2⟩; have hb3 := bel_next hbx hbx.size hb2; have c19 := new_cell19 hb2; rw [hc] at c19; clear L1 hb2)
            go_roundw
            case rel => exact ⟨j + 1, by omega, by go_num, by rw [HNX.out, step_up HI.out hc hl, Int.max_eq_right (by omega)], hb3⟩
            case measure => simp [intOf]; omega
          · have hl2 : i + 1 ≤ r := by omega
            go_wp2_with (go_at_call 12; refine (HIX.out.at L1).mono ?_; rintro x w2 ⟨rfl, hb2⟩; have hb3 := bel_next hbx hbx.size hb2; have c19 := new_cell19 hb2; rw [hc] at c19; clear L1 hb2)
            go_roundw
            case rel => exact ⟨j + 1, by omega, by go_num, by rw [HNX.out, step_stay HI.out hc hl2, Int.max_eq_left (by omega)], hb3⟩
            case measure => simp [intOf]; omega
    · obtain rfl : j = es.length := by omega
      rw [List.take_length]
      clear hlt hj
      obtain ⟨r, hr⟩ : ∃ r, reachF es t0 = r := ⟨_, rfl⟩
      rw [hr]
      go_wp2
      go_ret
      exact ⟨by rw [hr]; rfl, hbx⟩
end Go.Proofs.YtifkfidkokdijaaDoor.Arrs
