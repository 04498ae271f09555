/-
  Texts of this seat in build order: DeAppl, ArSpec, ArReach, ArCut, ArSmall.
-/
import Derived.Test.YtphaefkaeinngaaGreatDoorMy04
import Derived.Test.YtphaefkaeinngaaGreatDoorMy03
/-
  Apply: what it gives.
-/
namespace Go.Proofs.YtphaefkaeinngaaGreatDoor.Des
open Go.RowKit Go.Proofs.YtphaefkaeinngaaGreatDoor.Vals
set_option linter.unusedVariables false
set_option linter.unusedSimpArgs false
attribute [local go_sem ↓] to_ldD to_stD run_eqD run_eqV0
attribute [local go_sem] n2 n3 m2 m3 rowD_drew rowD_drewN rowD_alloc rowD_putc rowD_other putD_drew putD_drewN putD_size putD_alloc setObj_cells run_ldD run_stD okC_dcs okC_lit objRow_dcs one_b one_i one_s objRow_lit dcs_0 dcs_1 dcs_2 dcs_3 dcs_4 dcs_5 dcs_6 dcs_7 dcs_8 dcs_9 dcs_10 dcs_11 dcs_12 dcs_13 dcs_14 dcs_15 dcs_16 dcs_17
attribute [local go_sem low] cell_rowD
def appF (x : Bool) (d : Ds) (h : Bool) (n : Ds) : Ds × Bool := if !rigF d || (h && !whF n) then (zeroD, false) else if !h then (addF x d, x) else if !n.c && !kxF d n then (zeroD, false) else (replF (if othF d n then convF n else n) d, true)
abbrev DB (r : Ds × Bool) : Value := .tuple #[DV r.1, .bool r.2]
set_option maxHeartbeats 8000000 in
set_option maxRecDepth 100000 in
theorem app_any (x : Bool) (d : Ds) (h : Bool) (n : Ds) (w : World) : Calls Tryz.prog 121 #[.bool x, DV d, .bool h, DV n] w fun e w' => e = .returned (DB (appF x d h n)) ∧ Below w.heap.size w w' := by
  go_enter Tryz.func121, Tryz.ntmps121
  go_wp2_with (first | (go_at_call 84; refine (rig_any d _).mono ?_; rintro e w1 ⟨rfl, hb1⟩; have := rowD_call hb1 (show rowD _ (w.heap.size) = some (dcs d) by first | assumption | (simp [rowD_alloc, objRow_dcs, rowD_drew, n2, n3, m2, m3]; done) | (simp [rowD_drew, rowD_alloc, n2, n3, m2, m3, objRow_dcs, objRow_lit, rowD_putc, rowD_other, putD_size, okC_dcs, okC_lit, one_b, one_i, one_s, *]; done)); have := rowD_call hb1 (show rowD _ (w.heap.size + 1) = some (dcs n) by first | assumption | (simp [rowD_alloc, objRow_dcs, rowD_drew, n2, n3, m2, m3]; done) | (simp [rowD_drew, rowD_alloc, n2, n3, m2, m3, objRow_dcs, objRow_lit, rowD_putc, rowD_other, putD_size, okC_dcs, okC_lit, one_b, one_i, one_s, *]; done)); have := is_call hb1 (show (rowD _ (w.heap.size + 1 + 1)).isSome = true by first | assumption | (simp [rowD_alloc, objRow_dcs, objRow_lit, rowD_drew, n2, n3, m2, m3]; done) | (simp [rowD_drew, rowD_alloc, n2, n3, m2, m3, objRow_dcs, objRow_lit, rowD_putc, rowD_other, putD_size, okC_dcs, okC_lit, one_b, one_i, one_s, *]; done)); have hbw : Below w.heap.size w w1 := bel_keep hb1 (by first | assumption | exact two_bels _ _ _ | exact three_bels _ _ _ _ | exact ball _ _ | exact bel_drew (two_bels _ _ _) | exact bel_drew (three_bels _ _ _ _) | exact bel_drew (ball _ _) | exact bel_drew (by assumption) | exact bel_put (by assumption) (by omega) _); clear hb1) | (go_at_call 163; refine (wh_any n _).mono ?_; rintro e w1 ⟨rfl, hb1⟩; have := rowD_call hb1 (show rowD _ (w.heap.size) = some (dcs d) by first | assumption | (simp [rowD_alloc, objRow_dcs, rowD_drew, n2, n3, m2, m3]; done) | (simp [rowD_drew, rowD_alloc, n2, n3, m2, m3, objRow_dcs, objRow_lit, rowD_putc, rowD_other, putD_size, okC_dcs, okC_lit, one_b, one_i, one_s, *]; done)); have := rowD_call hb1 (show rowD _ (w.heap.size + 1) = some (dcs n) by first | assumption | (simp [rowD_alloc, objRow_dcs, rowD_drew, n2, n3, m2, m3]; done) | (simp [rowD_drew, rowD_alloc, n2, n3, m2, m3, objRow_dcs, objRow_lit, rowD_putc, rowD_other, putD_size, okC_dcs, okC_lit, one_b, one_i, one_s, *]; done)); have := is_call hb1 (show (rowD _ (w.heap.size + 1 + 1)).isSome = true by first | assumption | (simp [rowD_alloc, objRow_dcs, objRow_lit, rowD_drew, n2, n3, m2, m3]; done) | (simp [rowD_drew, rowD_alloc, n2, n3, m2, m3, objRow_dcs, objRow_lit, rowD_putc, rowD_other, putD_size, okC_dcs, okC_lit, one_b, one_i, one_s, *]; done)); have hbw : Below w.heap.size w w1 := bel_keep hb1 (by first | assumption | exact two_bels _ _ _ | exact three_bels _ _ _ _ | exact ball _ _ | exact bel_drew (two_bels _ _ _) | exact bel_drew (three_bels _ _ _ _) | exact bel_drew (ball _ _) | exact bel_drew (by assumption) | exact bel_put (by assumption) (by omega) _); clear hb1) | (go_at_call 164; refine (add_any x d _).mono ?_; rintro e w1 ⟨rfl, hb1⟩; have := rowD_call hb1 (show rowD _ (w.heap.size) = some (dcs d) by first | assumption | (simp [rowD_alloc, objRow_dcs, rowD_drew, n2, n3, m2, m3]; done) | (simp [rowD_drew, rowD_alloc, n2, n3, m2, m3, objRow_dcs, objRow_lit, rowD_putc, rowD_other, putD_size, okC_dcs, okC_lit, one_b, one_i, one_s, *]; done)); have := rowD_call hb1 (show rowD _ (w.heap.size + 1) = some (dcs n) by first | assumption | (simp [rowD_alloc, objRow_dcs, rowD_drew, n2, n3, m2, m3]; done) | (simp [rowD_drew, rowD_alloc, n2, n3, m2, m3, objRow_dcs, objRow_lit, rowD_putc, rowD_other, putD_size, okC_dcs, okC_lit, one_b, one_i, one_s, *]; done)); have := is_call hb1 (show (rowD _ (w.heap.size + 1 + 1)).isSome = true by first | assumption | (simp [rowD_alloc, objRow_dcs, objRow_lit, rowD_drew, n2, n3, m2, m3]; done) | (simp [rowD_drew, rowD_alloc, n2, n3, m2, m3, objRow_dcs, objRow_lit, rowD_putc, rowD_other, putD_size, okC_dcs, okC_lit, one_b, one_i, one_s, *]; done)); have hbw : Below w.heap.size w w1 := bel_keep hb1 (by first | assumption | exact two_bels _ _ _ | exact three_bels _ _ _ _ | exact ball _ _ | exact bel_drew (two_bels _ _ _) | exact bel_drew (three_bels _ _ _ _) | exact bel_drew (ball _ _) | exact bel_drew (by assumption) | exact bel_put (by assumption) (by omega) _); clear hb1) | (go_at_call 165; refine (kx_any d n _).mono ?_; rintro e w1 ⟨rfl, hb1⟩; have := rowD_call hb1 (show rowD _ (w.heap.size) = some (dcs d) by first | assumption | (simp [rowD_alloc, objRow_dcs, rowD_drew, n2, n3, m2, m3]; done) | (simp [rowD_drew, rowD_alloc, n2, n3, m2, m3, objRow_dcs, objRow_lit, rowD_putc, rowD_other, putD_size, okC_dcs, okC_lit, one_b, one_i, one_s, *]; done)); have := rowD_call hb1 (show rowD _ (w.heap.size + 1) = some (dcs n) by first | assumption | (simp [rowD_alloc, objRow_dcs, rowD_drew, n2, n3, m2, m3]; done) | (simp [rowD_drew, rowD_alloc, n2, n3, m2, m3, objRow_dcs, objRow_lit, rowD_putc, rowD_other, putD_size, okC_dcs, okC_lit, one_b, one_i, one_s, *]; done)); have := is_call hb1 (show (rowD _ (w.heap.size + 1 + 1)).isSome = true by first | assumption | (simp [rowD_alloc, objRow_dcs, objRow_lit, rowD_drew, n2, n3, m2, m3]; done) | (simp [rowD_drew, rowD_alloc, n2, n3, m2, m3, objRow_dcs, objRow_lit, rowD_putc, rowD_other, putD_size, okC_dcs, okC_lit, one_b, one_i, one_s, *]; done)); have hbw : Below w.heap.size w w1 := bel_keep hb1 (by first | assumption | exact two_bels _ _ _ | exact three_bels _ _ _ _ | exact ball _ _ | exact bel_drew (two_bels _ _ _) | exact bel_drew (three_bels _ _ _ _) | exact bel_drew (ball _ _) | exact bel_drew (by assumption) | exact bel_put (by assumption) (by omega) _); clear hb1) | (go_at_call 166; refine (oth_any d n _).mono ?_; rintro e w1 ⟨rfl, hb1⟩; have := rowD_call hb1 (show rowD _ (w.heap.size) = some (dcs d) by first | assumption | (simp [rowD_alloc, objRow_dcs, rowD_drew, n2, n3, m2, m3]; done) | (simp [rowD_drew, rowD_alloc, n2, n3, m2, m3, objRow_dcs, objRow_lit, rowD_putc, rowD_other, putD_size, okC_dcs, okC_lit, one_b, one_i, one_s, *]; done)); have := rowD_call hb1 (show rowD _ (w.heap.size + 1) = some (dcs n) by first | assumption | (simp [rowD_alloc, objRow_dcs, rowD_drew, n2, n3, m2, m3]; done) | (simp [rowD_drew, rowD_alloc, n2, n3, m2, m3, objRow_dcs, objRow_lit, rowD_putc, rowD_other, putD_size, okC_dcs, okC_lit, one_b, one_i, one_s, *]; done)); have := is_call hb1 (show (rowD _ (w.heap.size + 1 + 1)).isSome = true by first | assumption | (simp [rowD_alloc, objRow_dcs, objRow_lit, rowD_drew, n2, n3, m2, m3]; done) | (simp [rowD_drew, rowD_alloc, n2, n3, m2, m3, objRow_dcs, objRow_lit, rowD_putc, rowD_other, putD_size, okC_dcs, okC_lit, one_b, one_i, one_s, *]; done)); have hbw : Below w.heap.size w w1 := bel_keep hb1 (by first | assumption | exact two_bels _ _ _ | exact three_bels _ _ _ _ | exact ball _ _ | exact bel_drew (two_bels _ _ _) | exact bel_drew (three_bels _ _ _ _) | exact bel_drew (ball _ _) | exact bel_drew (by assumption) | exact bel_put (by assumption) (by omega) _); clear hb1) | (go_at_call 167; refine (conv_any n _).mono ?_; rintro e w1 ⟨rfl, hb1⟩; have := rowD_call hb1 (show rowD _ (w.heap.size) = some (dcs d) by first | assumption | (simp [rowD_alloc, objRow_dcs, rowD_drew, n2, n3, m2, m3]; done) | (simp [rowD_drew, rowD_alloc, n2, n3, m2, m3, objRow_dcs, objRow_lit, rowD_putc, rowD_other, putD_size, okC_dcs, okC_lit, one_b, one_i, one_s, *]; done)); have := rowD_call hb1 (show rowD _ (w.heap.size + 1) = some (dcs n) by first | assumption | (simp [rowD_alloc, objRow_dcs, rowD_drew, n2, n3, m2, m3]; done) | (simp [rowD_drew, rowD_alloc, n2, n3, m2, m3, objRow_dcs, objRow_lit, rowD_putc, rowD_other, putD_size, okC_dcs, okC_lit, one_b, one_i, one_s, *]; done)); have := is_call hb1 (show (rowD _ (w.heap.size + 1 + 1)).isSome = true by first | assumption | (simp [rowD_alloc, objRow_dcs, objRow_lit, rowD_drew, n2, n3, m2, m3]; done) | (simp [rowD_drew, rowD_alloc, n2, n3, m2, m3, objRow_dcs, objRow_lit, rowD_putc, rowD_other, putD_size, okC_dcs, okC_lit, one_b, one_i, one_s, *]; done)); have hbw : Below w.heap.size w w1 := bel_keep hb1 (by first | assumption | exact two_bels _ _ _ | exact three_bels _ _ _ _ | exact ball _ _ | exact bel_drew (two_bels _ _ _) | exact bel_drew (three_bels _ _ _ _) | exact bel_drew (ball _ _) | exact bel_drew (by assumption) | exact bel_put (by assumption) (by omega) _); clear hb1) | (go_at_call 119; with_reducible refine (repl_any n d _).mono ?_; rintro e w1 ⟨rfl, hb1⟩; have := is_call hb1 (show (rowD _ (w.heap.size + 1 + 1)).isSome = true by first | assumption | (simp [rowD_alloc, objRow_dcs, objRow_lit, rowD_drew, n2, n3, m2, m3]; done) | (simp [rowD_drew, rowD_alloc, n2, n3, m2, m3, objRow_dcs, objRow_lit, rowD_putc, rowD_other, putD_size, okC_dcs, okC_lit, one_b, one_i, one_s, *]; done)); have hbw : Below w.heap.size w w1 := bel_keep hb1 (by first | assumption | exact bel_put (by assumption) (by omega) _); clear hb1) | (go_at_call 119; with_reducible refine (repl_any (convF n) d _).mono ?_; rintro e w1 ⟨rfl, hb1⟩; have := is_call hb1 (show (rowD _ (w.heap.size + 1 + 1)).isSome = true by first | assumption | (simp [rowD_alloc, objRow_dcs, objRow_lit, rowD_drew, n2, n3, m2, m3]; done) | (simp [rowD_drew, rowD_alloc, n2, n3, m2, m3, objRow_dcs, objRow_lit, rowD_putc, rowD_other, putD_size, okC_dcs, okC_lit, one_b, one_i, one_s, *]; done)); have hbw : Below w.heap.size w w1 := bel_keep hb1 (by first | assumption | exact bel_put (by assumption) (by omega) _); clear hb1))
  all_goals
    refine bodyPost_ret (res2_rowD Tryz.results121 _ _ (w.heap.size + 1 + 1) _ rfl (rowD_putc _ _ _ (by assumption) (by first | exact okC_dcs _ | exact okC_dcs zeroD))) rfl ⟨?_, bel_put (by first | assumption | exact bel_put (by assumption) (by omega) _) (by omega) _⟩
    first | (simp [appF, *]; done) | (simp [appF, *]; rfl)
end Go.Proofs.YtphaefkaeinngaaGreatDoor.Des

/-
  What arrays.Cut gives, as plain mathematics: the length at which it stops, what is left, and the law that a cut list is cut no more.
-/
namespace Go.Proofs.YtphaefkaeinngaaGreatDoor.Arrs
open Go Go.RowKit Go.Proofs.YtphaefkaeinngaaGreatDoor.Nums Go.Proofs.YtphaefkaeinngaaGreatDoor.Keys
set_option linter.unusedVariables false
set_option linter.unusedSimpArgs false
def idxE (e : En) : Option Int := if e.kn = 0 then idxF e.ks.data.toList else none
theorem idxE_bd {e : En} {i : Int} (h : idxE e = some i) : 0 ≤ i ∧ i ≤ 4294967294 := by
  unfold idxE at h
  split at h
  · exact ⟨(idxF_some h).1, (idxF_some h).2.1⟩
  · cases h
def stepF (t : Int) (e : En) : Int := match idxE e with | some i => if e.d.c = true then t else if t < i + 1 then i + 1 else t | none => t
def reachF (es : List En) (t : Int) : Int := es.foldl stepF t
def keepF (n : Int) (e : En) : Bool := match idxE e with | some i => decide (i < n) | none => true
def leftF (es : List En) (t : Int) : List En := es.filter (keepF (reachF es t))
theorem step_none {t : Int} {e : En} (h : idxE e = none) : stepF t e = t := by simp [stepF, h]
theorem step_free {t i : Int} {e : En} (h : idxE e = some i) (hc : e.d.c = true) : stepF t e = t := by simp [stepF, h, hc]
theorem step_up {t i : Int} {e : En} (h : idxE e = some i) (hc : e.d.c = false) (hl : t < i + 1) : stepF t e = i + 1 := by simp [stepF, h, hc, hl]
theorem step_stay {t i : Int} {e : En} (h : idxE e = some i) (hc : e.d.c = false) (hl : i + 1 ≤ t) : stepF t e = t := by simp [stepF, h, hc, Int.not_lt.2 hl]
theorem keep_none {n : Int} {e : En} (h : idxE e = none) : keepF n e = true := by simp [keepF, h]
theorem keep_some {n i : Int} {e : En} (h : idxE e = some i) : keepF n e = decide (i < n) := by simp [keepF, h]
theorem step_ge (t : Int) (e : En) : t ≤ stepF t e := by
  unfold stepF
  repeat' split
  all_goals omega
theorem step_le {t : Int} (e : En) {M : Int} (h : t ≤ M) (hM : 4294967295 ≤ M) : stepF t e ≤ M := by
  unfold stepF
  split
  · rename_i i hi
    have := idxE_bd hi
    repeat' split
    all_goals omega
  · exact h
theorem reach_ge (es : List En) : ∀ t, t ≤ reachF es t := by
  induction es with
  | nil => intro t; exact Int.le_refl t
  | cons e r ih => intro t; exact Int.le_trans (step_ge t e) (ih (stepF t e))
theorem reach_le (es : List En) : ∀ {t M : Int}, t ≤ M → 4294967295 ≤ M → reachF es t ≤ M := by
  induction es with
  | nil => intro t M h _; exact h
  | cons e r ih => intro t M h hM; exact ih (step_le e h hM) hM
theorem reach_take {es : List En} {j : Nat} {e : En} (h : es[j]? = some e) (t : Int) : reachF (es.take (j + 1)) t = stepF (reachF (es.take j) t) e := by
  rw [List.take_add_one, h]
  simp [reachF]
theorem filter_take {es : List En} {j : Nat} {e : En} (h : es[j]? = some e) (p : En → Bool) : (es.take (j + 1)).filter p = (es.take j).filter p ++ (if p e = true then [e] else []) := by
  rw [List.take_add_one, h]
  cases hp : p e <;> simp [hp]
theorem filter_keep {es : List En} {j : Nat} {e : En} (h : es[j]? = some e) {p : En → Bool} (hp : p e = true) : (es.take (j + 1)).filter p = (es.take j).filter p ++ [e] := by rw [filter_take h, if_pos hp]
theorem filter_drop {es : List En} {j : Nat} {e : En} (h : es[j]? = some e) {p : En → Bool} (hp : p e = false) : (es.take (j + 1)).filter p = (es.take j).filter p := by rw [filter_take h, if_neg (by rw [hp]; decide), List.append_nil]
theorem filter_le (p : En → Bool) (es : List En) (j : Nat) : ((es.take j).filter p).length ≤ es.length :=
  Nat.le_trans (List.length_filter_le _ _) (by rw [List.length_take]; omega)
end Go.Proofs.YtphaefkaeinngaaGreatDoor.Arrs

/-
  arrays.reached: the length at which Cut stops.
-/
namespace Go.Proofs.YtphaefkaeinngaaGreatDoor.Arrs
open Go Go.RowKit Go.Maps Go.Proofs.YtphaefkaeinngaaGreatDoor.Nums Go.Proofs.YtphaefkaeinngaaGreatDoor.Keys
set_option linter.unusedVariables false
set_option linter.unusedSimpArgs false
attribute [local go_sem ↓] to_ldE to_alE to_stE to_bsE
attribute [local irreducible] ecs zer
attribute [local go_sem] run_alE run_stE run_bsE ecs_0 ecs_1 ecs_10 ecs_19
def IdxIs (e : En) (n : Int) (ok : Bool) : Prop := ∀ w, Lw w → Calls Tryz.prog 87 #[.agg #[.string e.ks, .int .i64 e.kn]] w fun x w' => x = .returned (.tuple #[.int .i64 n, .bool ok]) ∧ Below w.heap.size w w'
theorem IdxIs.at {e : En} {n : Int} {ok : Bool} (h : IdxIs e n ok) {w : World} (hL : Lw w) : Calls Tryz.prog 87 #[.agg #[.string e.ks, .int .i64 e.kn]] w fun x w' => x = .returned (.tuple #[.int .i64 n, .bool ok]) ∧ Below w.heap.size w w' := h w hL
theorem index_en (e : En) (hk : e.ks.size ≤ 281474976710656) : IdxIs e ((idxE e).getD 0) (idxE e).isSome := fun w hL => by
  unfold idxE
  split
  · rename_i h
    rw [h]
    exact index_str e.ks hk w hL
  · rename_i h
    exact index_sym e.ks e.kn (by simpa using h) w
theorem idx_none {e : En} (hk : e.ks.size ≤ 281474976710656) (h : idxE e = none) : IdxIs e 0 false := by have := index_en e hk; rw [h] at this; exact this
theorem idx_some {e : En} {i : Int} (hk : e.ks.size ≤ 281474976710656) (h : idxE e = some i) : IdxIs e i true := by have := index_en e hk; rw [h] at this; exact this
theorem size_al {w : World} {B : Nat} (o : Obj) (h : B ≤ w.heap.size) : B ≤ (w.alloc o).heap.size := by simp; omega
theorem bel_next {B : Nat} {w w1 w2 : World} {o : Obj} (h : Below B w w1) (hB : B ≤ w1.heap.size) (h2 : Below (w1.alloc o).heap.size (w1.alloc o) w2) : Below B w w2 :=
  (h.alloc hB o).trans (h2.mono (size_al o hB))
theorem new_at {w w1 : World} {e : En} {t : TypeId} (hb : Below (w.alloc (.cells (ecs e) t)).heap.size (w.alloc (.cells (ecs e) t)) w1) : enAt w1 ⟨w.heap.size, 0, none⟩ e :=
  enAt_below (enAt_new w e t) hb (by simp)
theorem new_cell19 {w w1 : World} {e : En} {t : TypeId} (hb : Below (w.alloc (.cells (ecs e) t)).heap.size (w.alloc (.cells (ecs e) t)) w1) : w1.cell? ⟨w.heap.size, 19, none⟩ = some (.bool e.d.c) := by
  have h := enAt_cell (o := 0) (new_at hb) 19 _ (ecs_19 e)
  simpa using h
set_option maxRecDepth 100000 in
set_option maxHeartbeats 2000000 in
theorem reached_any (ao : Option Addr) (cap : Nat) (es : List En) (w : World) (t0 : Int) (hL : Lw w) (hlen : es.length ≤ 1000000) (hc : EsAt ao es w) (hf : ∀ e ∈ es, e.ks.size ≤ 281474976710656) (h0 : t0 ≤ 9223372036854775807) (h1 : 0 ≤ t0) :
    Calls Tryz.prog 189 #[.slice ao es.length cap, .int .i64 t0] w fun x w' => x = .returned (.int .i64 (reachF es t0)) ∧ Below w.heap.size w w' := by
  have HC := Lib.hid hc
  have HF := Lib.hid hf
  have HL := Lib.hid hL
  clear hc hf hL
  go_enter Tryz.func189, Tryz.ntmps189
  go_wp2
  go_loopw [1, 11] (fun t i wr => ∃ j : Nat, j ≤ es.length ∧ i = .int .i64 j ∧ t = .int .i64 (reachF (es.take j) t0) ∧ Below w.heap.size w wr) (fun _ i _ => es.length - (intOf i).toNat)
  case atStart => exact ⟨0, Nat.zero_le _, rfl, rfl, Below.refl _ _⟩
  case round =>
    obtain ⟨j, hj, rfl, rfl, hbx⟩ := hrel
    by_cases hlt : j < es.length
    · obtain ⟨e, he⟩ : ∃ e, es[j]? = some e := ⟨es[j], by simp [hlt]⟩
      have hlt2 : (j : Int) < es.length := by omega
      obtain ⟨b, off, rfl, hb, hat⟩ := (HC.out.below hbx) j e he
      have l0 := run_ldE hat
      have hk := HF.out e (List.mem_of_getElem? he)
      have hge := reach_ge (es.take j) t0
      have hle := reach_le (es.take j) (M := 9223372036854775807) h0 (by omega)
      obtain ⟨r, hr⟩ : ∃ r, reachF (es.take j) t0 = r := ⟨_, rfl⟩
      have hnx := reach_take he t0
      rw [hr] at hge hle hnx
      rw [hr]
      have HNX := Lib.hid hnx
      have HE := Lib.hid he
      have HB := Lib.hid hb
      clear hr hnx he hat hb
      cases hi : idxE e with
      | none =>
        have hix := idx_none hk hi
        have HI := Lib.hid hi
        have HIX := Lib.hid hix
        clear hi hix
        have L1 := HL.out.below (hbx.alloc hbx.size (.cells (ecs e) 36))
        go_wp2_with (go_at_call 87; refine (HIX.out.at L1).mono ?_; rintro x w2 ⟨rfl, hb2⟩; have hb3 := bel_next hbx hbx.size hb2; clear L1 hb2)
        go_roundw
        case rel => exact ⟨j + 1, by omega, by go_num, by rw [HNX.out, step_none HI.out], hb3⟩
        case measure => simp [intOf]; omega
      | some i =>
        have hix := idx_some hk hi
        have hbi := idxE_bd hi
        have HI := Lib.hid hi
        have HIX := Lib.hid hix
        clear hi hix
        have L1 := HL.out.below (hbx.alloc hbx.size (.cells (ecs e) 36))
        cases hc : e.d.c with
        | true =>
          go_wp2_with (go_at_call 87; refine (HIX.out.at L1).mono ?_; rintro x w2 ⟨rfl, hb2⟩; have hb3 := bel_next hbx hbx.size hb2; have c19 := new_cell19 hb2; rw [hc] at c19; clear L1 hb2)
          go_roundw
          case rel => exact ⟨j + 1, by omega, by go_num, by rw [HNX.out, step_free HI.out hc], hb3⟩
          case measure => simp [intOf]; omega
        | false =>
          by_cases hl : r < i + 1
          · go_wp2_with (go_at_call 87; refine (HIX.out.at L1).mono ?_; rintro x w2 ⟨rfl, hb2⟩; have hb3 := bel_next hbx hbx.size hb2; have c19 := new_cell19 hb2; rw [hc] at c19; clear L1 hb2)
            go_roundw
            case rel => exact ⟨j + 1, by omega, by go_num, by rw [HNX.out, step_up HI.out hc hl, Int.max_eq_right (by omega)], hb3⟩
            case measure => simp [intOf]; omega
          · have hl2 : i + 1 ≤ r := by omega
            go_wp2_with (go_at_call 87; refine (HIX.out.at L1).mono ?_; rintro x w2 ⟨rfl, hb2⟩; have hb3 := bel_next hbx hbx.size hb2; have c19 := new_cell19 hb2; rw [hc] at c19; clear L1 hb2)
            go_roundw
            case rel => exact ⟨j + 1, by omega, by go_num, by rw [HNX.out, step_stay HI.out hc hl2, Int.max_eq_left (by omega)], hb3⟩
            case measure => simp [intOf]; omega
    · obtain rfl : j = es.length := by omega
      rw [List.take_length]
      clear hlt hj
      obtain ⟨r, hr⟩ : ∃ r, reachF es t0 = r := ⟨_, rfl⟩
      rw [hr]
      go_wp2
      go_ret
      exact ⟨by rw [hr]; rfl, hbx⟩
end Go.Proofs.YtphaefkaeinngaaGreatDoor.Arrs

/-
  arrays.Cut: what is left, and the length at which it stops, at every list of properties.
-/
namespace Go.Proofs.YtphaefkaeinngaaGreatDoor.Arrs
open Go Go.RowKit Go.Maps Go.Proofs.YtphaefkaeinngaaGreatDoor.Nums Go.Proofs.YtphaefkaeinngaaGreatDoor.Keys
set_option linter.unusedVariables false
set_option linter.unusedSimpArgs false
attribute [local go_sem ↓] to_ldE to_alE to_stE to_bsE
attribute [local irreducible] ecs zer
attribute [local go_sem] run_alE run_stE run_bsE ecs_0 ecs_1 ecs_10 ecs_19
def CutPost (es : List En) (t : Int) (w : World) (x : Ending) (w' : World) : Prop :=
  ∃ ao cp, x = .returned (.tuple #[.slice ao (leftF es t).length cp, .int .i64 (reachF es t)]) ∧ EsAt ao (leftF es t) w' ∧ Below w.heap.size w w'
theorem own_shape {w : World} {base : Nat} {e : TypeId} {size n : Nat} {v : Value} {xs : List Value} (h : w.ownsRow base e size v n xs) : ∃ a c, v = .slice a n c := by
  rcases h.2 with ⟨rfl, rfl⟩ | ⟨g, cap, cur, rfl, _⟩
  · exact ⟨none, 0, rfl⟩
  · exact ⟨_, cap, rfl⟩
theorem grown_of_below {w w' : World} (hb : Below w.heap.size w w') : w.grownBy w' none := ⟨hb.os, hb.tape, hb.output, hb.size, fun k hk _ => hb.block k hk⟩
theorem own_below {w w' : World} {base : Nat} {e : TypeId} {size n : Nat} {v : Value} {xs : List Value} (h : w.ownsRow base e size v n xs) (hb : Below w.heap.size w w') : w'.ownsRow base e size v n xs :=
  h.kept (grown_of_below hb) (by cases hv : v.ownBlock <;> simp)
structure CutInv (w0 : World) (es : List En) (n : Int) (j : Nat) (v : Value) (wr : World) : Prop where
  own : wr.ownsRow w0.heap.size 36 20 v ((es.take j).filter (keepF n)).length (cellsE ((es.take j).filter (keepF n)))
  below : Below w0.heap.size w0 wr
section
variable {w0 wr w1 w2 w3 : World} {es : List En} {n : Int} {j m : Nat} {v v' : Value} {e : En} {o : Obj}
theorem CutInv.start (h : Below w0.heap.size w0 w1) : CutInv w0 es n 0 (.slice none 0 0) w1 := ⟨World.ownsRow_nil _ _ _ _, h⟩
theorem CutInv.next (h : CutInv w0 es n j v wr) (hb : Below (wr.alloc o).heap.size (wr.alloc o) w2) : CutInv w0 es n j v w2 :=
  ⟨own_below (h.own.alloc o) hb, bel_next h.below h.below.size hb⟩
theorem CutInv.drop (h : CutInv w0 es n j v wr) (he : es[j]? = some e) (hk : keepF n e = false) : CutInv w0 es n (j + 1) v wr := by
  obtain ⟨h1, h2⟩ := h
  rw [← filter_drop he hk] at h1
  exact ⟨h1, h2⟩
theorem CutInv.keep (h : CutInv w0 es n j v w2) (he : es[j]? = some e) (hk : keepF n e = true) (hm : ((es.take j).filter (keepF n)).length = m)
    (hown : w3.ownsRow w0.heap.size 36 20 v' (m + 1) (cellsE ((es.take j).filter (keepF n)) ++ (ecs e).toList)) (hg : (w2.alloc o).grownBy w3 v.ownBlock) : CutInv w0 es n (j + 1) v' w3 := by
  subst hm
  obtain ⟨h1, h2⟩ := h
  refine ⟨?_, (h2.alloc h2.size o).grown hg (size_al o h2.size) (fun k hk => (h1.lt k hk).1)⟩
  rw [filter_keep he hk, List.length_append, cellsE_append, cellsE_one]
  exact hown
end
theorem new_cells (w : World) (e : En) (t : TypeId) : ∀ j u, (ecs e).toList[j]? = some u → (w.alloc (.cells (ecs e) t)).cell? ((⟨w.heap.size, 0, none⟩ : Addr).add j) = some u := enAt_new w e t
def ReachIs (ao : Option Addr) (cap : Nat) (es : List En) (t n : Int) (w : World) : Prop := Calls Tryz.prog 189 #[.slice ao es.length cap, .int .i64 t] w fun x w' => x = .returned (.int .i64 n) ∧ Below w.heap.size w w'
set_option maxRecDepth 100000 in
set_option maxHeartbeats 2000000 in
theorem cut_any (ao : Option Addr) (cap : Nat) (es : List En) (w : World) (t0 : Int) (hL : Lw w) (hlen : es.length ≤ 1000000) (hc : EsAt ao es w) (hf : ∀ e ∈ es, e.ks.size ≤ 281474976710656) (h0 : t0 ≤ 9223372036854775807) (h1 : 0 ≤ t0) :
    Calls Tryz.prog 168 #[.slice ao es.length cap, .int .i64 t0] w (CutPost es t0 w) := by
  have hre : ReachIs ao cap es t0 (reachF es t0) w := reached_any ao cap es w t0 hL hlen hc hf h0 h1
  have hm0 : max t0 0 = t0 := Int.max_eq_left h1
  have hn0 := reach_ge es t0
  have hn1 := reach_le es (M := 9223372036854775807) h0 (by omega)
  obtain ⟨i39, hi39, hz390, hz391, hz392⟩ := info_parts infoE
  obtain ⟨n, hn⟩ : ∃ n, reachF es t0 = n := ⟨_, rfl⟩
  rw [hn] at hre hn0 hn1
  have HN := Lib.hid hn
  have HC := Lib.hid hc
  have HF := Lib.hid hf
  have HL := Lib.hid hL
  clear hc hf hL hn
  go_enter Tryz.func168, Tryz.ntmps168
  go_wp2_with (go_at_call 189; refine Calls.mono hre ?_; rintro x w1 ⟨rfl, hb1⟩; refine Hid.out ?_)
  refine Lib.hid ?_
  have hst := CutInv.start (es := es) (n := n) hb1
  clear hm0 hre hb1
  go_wp2
  go_loopw [7, 18] (fun v i wr => ∃ j : Nat, j ≤ es.length ∧ i = .int .i64 j ∧ CutInv w es n j v wr) (fun _ i _ => es.length - (intOf i).toNat)
  case atStart => exact ⟨0, Nat.zero_le _, rfl, hst⟩
  case round =>
    clear hst
    obtain ⟨j, hj, rfl, hinv⟩ := hrel
    by_cases hlt : j < es.length
    · obtain ⟨e, he⟩ : ∃ e, es[j]? = some e := ⟨es[j], by simp [hlt]⟩
      have hlt2 : (j : Int) < es.length := by omega
      have hbx := hinv.below
      obtain ⟨b, off, rfl, hb, hat⟩ := (HC.out.below hbx) j e he
      have l0 := run_ldE hat
      have hk := HF.out e (List.mem_of_getElem? he)
      have hfl := filter_le (keepF n) es j
      have HE := Lib.hid he
      have HB := Lib.hid hb
      have L1 := HL.out.below (hbx.alloc hbx.size (.cells (ecs e) 36))
      clear he hat hb hbx
      cases hi : idxE e with
      | none =>
        have hix := idx_none hk hi
        have hkp : keepF n e = true := keep_none hi
        have HI := Lib.hid hi
        have HIX := Lib.hid hix
        have HKP := Lib.hid hkp
        clear hi hix hkp
        go_wp2_with (go_at_call 87; refine (HIX.out.at L1).mono ?_; rintro x w2 ⟨rfl, hb2⟩; refine Hid.out ?_)
        refine Lib.hid ?_
        have hinv2 := hinv.next hb2
        have l2 := run_ldE (new_at hb2)
        have hws2 := hinv2.below.size
        clear L1 hb2 hinv l0
        have hr := hinv2.own
        obtain ⟨m, hm⟩ : ∃ m, ((es.take j).filter (keepF n)).length = m := ⟨_, rfl⟩
        rw [hm] at hr hfl
        have HM := Lib.hid hm
        clear hm
        go_wp2_with (at_builtin; refine wpList_append_own _ rfl _ _ 37 rfl w.heap.size 36 i39 (.agg zer) 20 136 Tryz.underlying37 hi39 hz390 hz391 hz392 zer_cells (by decide) _ _ _ rfl (hr.alloc _) ⟨w2.heap.size, 0, none⟩ 1 1 (ecs e).toList rfl (ecs_list e) (new_cells w2 e 36) (ecs_one' e) (by unfold maxLen; omega) (by omega) (size_al _ hws2) ?_; intro v' w3 hown3 hgrow3 _)
        have hinv' := hinv2.keep HE.out HKP.out HM.out hown3 hgrow3
        clear hown3 hgrow3 hinv2 hr
        go_wp2
        go_roundw
        case rel => exact ⟨j + 1, by omega, by go_num, hinv'⟩
        case measure => simp [intOf]; omega
      | some i =>
        have hix := idx_some hk hi
        have hbi := idxE_bd hi
        have hks := keep_some (n := n) hi
        have HI := Lib.hid hi
        have HIX := Lib.hid hix
        clear hi hix
        by_cases hl : i < n
        · have hkp : keepF n e = true := by rw [hks]; simpa using hl
          have HKP := Lib.hid hkp
          clear hkp hks
          go_wp2_with (go_at_call 87; refine (HIX.out.at L1).mono ?_; rintro x w2 ⟨rfl, hb2⟩; refine Hid.out ?_)
          refine Lib.hid ?_
          have hinv2 := hinv.next hb2
          have l2 := run_ldE (new_at hb2)
          have hws2 := hinv2.below.size
          clear L1 hb2 hinv l0
          have hr := hinv2.own
          obtain ⟨m, hm⟩ : ∃ m, ((es.take j).filter (keepF n)).length = m := ⟨_, rfl⟩
          rw [hm] at hr hfl
          have HM := Lib.hid hm
          clear hm
          go_wp2_with (at_builtin; refine wpList_append_own _ rfl _ _ 37 rfl w.heap.size 36 i39 (.agg zer) 20 136 Tryz.underlying37 hi39 hz390 hz391 hz392 zer_cells (by decide) _ _ _ rfl (hr.alloc _) ⟨w2.heap.size, 0, none⟩ 1 1 (ecs e).toList rfl (ecs_list e) (new_cells w2 e 36) (ecs_one' e) (by unfold maxLen; omega) (by omega) (size_al _ hws2) ?_; intro v' w3 hown3 hgrow3 _)
          have hinv' := hinv2.keep HE.out HKP.out HM.out hown3 hgrow3
          clear hown3 hgrow3 hinv2 hr
          go_wp2
          go_roundw
          case rel => exact ⟨j + 1, by omega, by go_num, hinv'⟩
          case measure => simp [intOf]; omega
        · have hl2 : n ≤ i := by omega
          have hkp : keepF n e = false := by rw [hks]; simpa using hl2
          have HKP := Lib.hid hkp
          clear hkp hks hl
          go_wp2_with (go_at_call 87; refine (HIX.out.at L1).mono ?_; rintro x w2 ⟨rfl, hb2⟩; have hinv2 := (hinv.next hb2).drop HE.out HKP.out; clear L1 hb2)
          go_roundw
          case rel => exact ⟨j + 1, by omega, by go_num, hinv2⟩
          case measure => simp [intOf]; omega
    · obtain rfl : j = es.length := by omega
      clear hlt hj
      obtain ⟨hown, hbel⟩ := hinv
      rw [List.take_length] at hown
      have hlf : leftF es t0 = es.filter (keepF n) := by unfold leftF; rw [HN.out]
      obtain ⟨a, c, rfl⟩ := own_shape hown
      have hat := esAt_own hown
      have hpost : ∀ x, x = Ending.returned (.tuple #[.slice a (es.filter (keepF n)).length c, .int .i64 n]) → CutPost es t0 w x wr := fun x hx => ⟨a, c, by rw [hlf, HN.out]; exact hx, by rw [hlf]; exact hat, hbel⟩
      clear hown hlf hat
      generalize (es.filter (keepF n)).length = q at hpost
      go_wp2
      go_ret2
      exact hpost _ rfl
end Go.Proofs.YtphaefkaeinngaaGreatDoor.Arrs

/-
  Length, the reference's Length, Big, same, the document's example.
-/
namespace Go.Proofs.YtphaefkaeinngaaGreatDoor.Arrs
open Go Go.RowKit Go.Maps Go.Proofs.YtphaefkaeinngaaGreatDoor.Nums Go.Proofs.YtphaefkaeinngaaGreatDoor.Keys
set_option linter.unusedVariables false
set_option linter.unusedSimpArgs false
attribute [local go_sem ↓] to_ldE to_alE to_stE to_bsE
attribute [local irreducible] ecs zer
attribute [local go_sem] run_alE run_stE run_bsE ecs_0 ecs_1 ecs_10 ecs_19
def lenF (k n : Int) : Int × Bool := if k = 3 ∧ 0 ≤ n ∧ n ≤ 4294967295 then (n, true) else (0, false)
theorem lenF_yes {k n : Int} (hk : k = 3) (h0 : 0 ≤ n) (h1 : n ≤ 4294967295) : lenF k n = (n, true) := if_pos ⟨hk, h0, h1⟩
theorem lenF_no {k n : Int} (h : k ≠ 3 ∨ n < 0 ∨ 4294967295 < n) : lenF k n = (0, false) := if_neg (by omega)
theorem len_any (k n : Int) (s : ByteArray) (w : World) : Calls Tryz.prog 120 #[.agg #[.int .i64 k, .int .i64 n, .string s]] w fun x w' => x = .returned (.tuple #[.int .i64 (lenF k n).1, .bool (lenF k n).2]) ∧ Below w.heap.size w w' := by
  by_cases hk : k = 3
  · by_cases h0 : n < 0
    · rw [lenF_no (.inr (.inl h0))]
      subst hk
      go_enter Tryz.func120, Tryz.ntmps120
      go_wp2
      go_ret2
      exact ⟨rfl, ball _ _⟩
    · have h0' : 0 ≤ n := by omega
      clear h0
      by_cases h1 : n ≤ 4294967295
      · rw [lenF_yes hk h0' h1]
        subst hk
        go_enter Tryz.func120, Tryz.ntmps120
        go_wp2
        go_ret2
        exact ⟨rfl, ball _ _⟩
      · have h1' : 4294967295 < n := by omega
        clear h1
        rw [lenF_no (.inr (.inr h1'))]
        subst hk
        go_enter Tryz.func120, Tryz.ntmps120
        go_wp2
        go_ret2
        exact ⟨rfl, ball _ _⟩
  · rw [lenF_no (.inl hk)]
    have hk' : (k == 3) = false := by simpa using hk
    go_enter Tryz.func120, Tryz.ntmps120
    go_wp2
    go_ret2
    exact ⟨rfl, ball _ _⟩
end Go.Proofs.YtphaefkaeinngaaGreatDoor.Arrs
