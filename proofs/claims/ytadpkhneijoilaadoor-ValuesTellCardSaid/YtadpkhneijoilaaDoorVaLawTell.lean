/-
  The walk of ValuesTell.
-/
import Derived.Test.YtadpkhneijoilaaDoorVaSame
namespace Go.Proofs.YtadpkhneijoilaaDoor.Vals
open Go.RowKit Go.Proofs.YtadpkhneijoilaaDoor.Nums
open Go.Proofs.YtadpkhneijoilaaDoor.Uni (right_any of_any pts)
set_option linter.unusedVariables false

set_option maxHeartbeats 2000000 in
set_option maxRecDepth 100000 in
theorem lawTell_long (k n : Int) (s : ByteArray) (c : Bool) (w : World) (hV : Lv w) (hl : (500 : Int) < (s.size : Int)) :
    Calls Tryd.prog 3 #[V k n s, .bool c] w fun e w' => e = .returned (.bool true) ∧ Below w.heap.size w w' := by
  have HA := Lib.hid (fun w hT => alive_any w hT)
  have hb0 := ball w (.cells #[.int .i64 k, .int .i64 n, .string s] 23)
  have hT0 := hV.tab.below hb0
  have HN0 := Lib.hid (heap_alloc_new w (.cells #[.int .i64 k, .int .i64 n, .string s] 23))
  go_enter Tryd.func3, Tryd.ntmps3
  go_wp2_with (go_at_call 8; refine (HA.out _ hT0).mono ?_)
  rintro e w1 ⟨rfl, hb1⟩
  have c0 : w1.cell? ⟨w.heap.size, 0, none⟩ = some (.int .i64 k) := cell_keep hb1 (Lib.cell_of_heap HN0.out 0)
  have c1 : w1.cell? ⟨w.heap.size, 1, none⟩ = some (.int .i64 n) := cell_keep hb1 (Lib.cell_of_heap HN0.out 1)
  have c2 : w1.cell? ⟨w.heap.size, 2, none⟩ = some (.string s) := cell_keep hb1 (Lib.cell_of_heap HN0.out 2)
  have hbW : Below w.heap.size w w1 := bel_keep hb1 hb0
  clear hb1 HN0 hb0
  go_wp2
  go_ret
  exact ⟨rfl, hbW⟩

set_option maxHeartbeats 4000000 in
set_option maxRecDepth 100000 in
theorem lawTell_wrong (k n : Int) (s : ByteArray) (c r : Bool) (hr : r = false) (w : World) (hV : Lv w) (hl : (s.size : Int) ≤ 500)
    (HR : Hid (∀ w, Calls Tryd.prog 9 #[V k n s] w fun e w' => e = .returned (.bool r) ∧ Below w.heap.size w w'))
    (HR2 : Hid (∀ w, Calls Tryd.prog 10 #[V k n s] w fun e w' => e = .returned (.bool r) ∧ Below w.heap.size w w')) :
    Calls Tryd.prog 3 #[V k n s, .bool c] w fun e w' => e = .returned (.bool true) ∧ Below w.heap.size w w' := by
  subst hr
  have sm := same_t k n s
  have HA := Lib.hid (fun w hT => alive_any w hT)
  have hb0 := ball w (.cells #[.int .i64 k, .int .i64 n, .string s] 23)
  have hT0 := hV.tab.below hb0
  have HN0 := Lib.hid (heap_alloc_new w (.cells #[.int .i64 k, .int .i64 n, .string s] 23))
  go_enter Tryd.func3, Tryd.ntmps3
  go_wp2_with (go_at_call 8; refine (HA.out _ hT0).mono ?_)
  rintro e w1 ⟨rfl, hb1⟩
  have c0 : w1.cell? ⟨w.heap.size, 0, none⟩ = some (.int .i64 k) := cell_keep hb1 (Lib.cell_of_heap HN0.out 0)
  have c1 : w1.cell? ⟨w.heap.size, 1, none⟩ = some (.int .i64 n) := cell_keep hb1 (Lib.cell_of_heap HN0.out 1)
  have c2 : w1.cell? ⟨w.heap.size, 2, none⟩ = some (.string s) := cell_keep hb1 (Lib.cell_of_heap HN0.out 2)
  have hbW : Below w.heap.size w w1 := bel_keep hb1 hb0
  clear hb1 HN0 hb0
  go_wp2
  go_region_held3 (fun w' => Below w.heap.size w w' ∧ w'.cell? ⟨w.heap.size, 0, none⟩ = some (.int .i64 k) ∧ w'.cell? ⟨w.heap.size, 1, none⟩ = some (.int .i64 n) ∧ w'.cell? ⟨w.heap.size, 2, none⟩ = some (.string s))
    (first | exact ⟨hbW.drew, c0, c1, c2⟩ | (go_split_ands; exact ⟨bel_keep (by assumption) (by assumption), cell_keep (by assumption) (by assumption), cell_keep (by assumption) (by assumption), cell_keep (by assumption) (by assumption)⟩))
    (first
      | (go_at_call 9; refine (HR.out _).mono ?_; rintro e w2 ⟨rfl, hb2⟩)
      | (go_at_call 10; refine (HR2.out _).mono ?_; rintro e w3 ⟨rfl, hb3⟩))
  go_split_ands
  have q0 : w3.cell? ⟨w.heap.size, 0, none⟩ = some (.int .i64 k) := by assumption
  have q1 : w3.cell? ⟨w.heap.size, 1, none⟩ = some (.int .i64 n) := by assumption
  have q2 : w3.cell? ⟨w.heap.size, 2, none⟩ = some (.string s) := by assumption
  have hbQ : Below w.heap.size w w3 := by assumption
  go_wp2_with (go_at_call 9; refine (HR.out _).mono ?_)
  rintro e w4 ⟨rfl, hb4⟩
  have r0 := cell_keep hb4 q0
  have r1 := cell_keep hb4 q1
  have r2 := cell_keep hb4 q2
  have hbR := bel_keep hb4 hbQ
  go_wp2_with (go_at_call 11; with_reducible refine sm.at.mono ?_)
  rintro e w5 ⟨rfl, hb5⟩
  have hbS := bel_keep hb5 hbR
  go_wp2
  go_ret
  exact ⟨rfl, hbS⟩

set_option maxHeartbeats 8000000 in
set_option maxRecDepth 100000 in
theorem lawTell_main (k n : Int) (s : ByteArray) (c r : Bool) (hr : r = true) (ts : ByteArray) (tb : Bool) (x : Int) (f tr : Bool) (ty sh : ByteArray) (w : World) (hV : Lv w) (hl : (s.size : Int) ≤ 500)
    (HR : Hid (∀ w, Calls Tryd.prog 9 #[V k n s] w fun e w' => e = .returned (.bool r) ∧ Below w.heap.size w w'))
    (HR2 : Hid (∀ w, Calls Tryd.prog 10 #[V k n s] w fun e w' => e = .returned (.bool r) ∧ Below w.heap.size w w'))
    (HX : Hid (∀ w, Lw w → Calls Tryd.prog 12 #[V k n s] w fun e w' => e = .returned (.tuple #[.string ts, .bool tb]) ∧ Below w.heap.size w w'))
    (HXo : Hid (∀ w, Calls Tryd.prog 13 #[V k n s] w fun e w' => e = .returned (.tuple #[.string ts, .bool tb]) ∧ Below w.heap.size w w'))
    (HN : Hid (∀ w, Lw w → Calls Tryd.prog 14 #[V k n s] w fun e w' => e = .returned (.tuple #[.int .i64 x, .bool f]) ∧ Below w.heap.size w w'))
    (HNo : Hid (∀ w, Calls Tryd.prog 15 #[V k n s] w fun e w' => ∃ q, e = .returned (.tuple #[.int .i64 q, .bool f]) ∧ (f = true → q = x) ∧ Below w.heap.size w w'))
    (HT : Hid (∀ w, Calls Tryd.prog 16 #[V k n s] w fun e w' => e = .returned (.bool tr) ∧ Below w.heap.size w w'))
    (HTo : Hid (∀ w, Calls Tryd.prog 17 #[V k n s] w fun e w' => e = .returned (.bool tr) ∧ Below w.heap.size w w'))
    (HY : Hid (∀ w, Calls Tryd.prog 18 #[V k n s, .bool c] w fun e w' => e = .returned (.string ty) ∧ Below w.heap.size w w'))
    (HYo : Hid (∀ w, Calls Tryd.prog 19 #[V k n s, .bool c] w fun e w' => e = .returned (.string ty) ∧ Below w.heap.size w w'))
    (HS : Hid (∀ w, Lv w → Calls Tryd.prog 20 #[V k n s, .bool c] w fun e w' => e = .returned (.string sh) ∧ Below w.heap.size w w'))
    (HSo : Hid (∀ w, Calls Tryd.prog 21 #[V k n s, .bool c] w fun e w' => e = .returned (.string sh) ∧ Below w.heap.size w w'))
    (htb : tb = false → ts = ⟨#[]⟩) (hxf : f = false → x = 0) :
    Calls Tryd.prog 3 #[V k n s, .bool c] w fun e w' => e = .returned (.bool true) ∧ Below w.heap.size w w' := by
  subst hr
  have HTB := Lib.hid htb
  have HXF := Lib.hid hxf
  clear htb hxf
  have HA := Lib.hid (fun w hT => alive_any w hT)
  have hb0 := ball w (.cells #[.int .i64 k, .int .i64 n, .string s] 23)
  have hT0 := hV.tab.below hb0
  have HN0 := Lib.hid (heap_alloc_new w (.cells #[.int .i64 k, .int .i64 n, .string s] 23))
  go_enter Tryd.func3, Tryd.ntmps3
  go_wp2_with (go_at_call 8; refine (HA.out _ hT0).mono ?_)
  rintro e w1 ⟨rfl, hb1⟩
  have c0 : w1.cell? ⟨w.heap.size, 0, none⟩ = some (.int .i64 k) := cell_keep hb1 (Lib.cell_of_heap HN0.out 0)
  have c1 : w1.cell? ⟨w.heap.size, 1, none⟩ = some (.int .i64 n) := cell_keep hb1 (Lib.cell_of_heap HN0.out 1)
  have c2 : w1.cell? ⟨w.heap.size, 2, none⟩ = some (.string s) := cell_keep hb1 (Lib.cell_of_heap HN0.out 2)
  have hbW : Below w.heap.size w w1 := bel_keep hb1 hb0
  clear hb1 HN0 hb0
  go_wp2
  go_region_held3 (fun w' => Below w.heap.size w w' ∧ w'.cell? ⟨w.heap.size, 0, none⟩ = some (.int .i64 k) ∧ w'.cell? ⟨w.heap.size, 1, none⟩ = some (.int .i64 n) ∧ w'.cell? ⟨w.heap.size, 2, none⟩ = some (.string s))
    (first | exact ⟨hbW.drew, c0, c1, c2⟩ | (go_split_ands; exact ⟨bel_keep (by assumption) (by assumption), cell_keep (by assumption) (by assumption), cell_keep (by assumption) (by assumption), cell_keep (by assumption) (by assumption)⟩))
    (first
      | (go_at_call 9; refine (HR.out _).mono ?_; rintro e w2 ⟨rfl, hb2⟩)
      | (go_at_call 10; refine (HR2.out _).mono ?_; rintro e w3 ⟨rfl, hb3⟩))
  go_split_ands
  have q0 : w3.cell? ⟨w.heap.size, 0, none⟩ = some (.int .i64 k) := by assumption
  have q1 : w3.cell? ⟨w.heap.size, 1, none⟩ = some (.int .i64 n) := by assumption
  have q2 : w3.cell? ⟨w.heap.size, 2, none⟩ = some (.string s) := by assumption
  have hbQ : Below w.heap.size w w3 := by assumption
  go_wp2_with (go_at_call 9; refine (HR.out _).mono ?_)
  rintro e w4 ⟨rfl, hb4⟩
  have r0 := cell_keep hb4 q0
  have r1 := cell_keep hb4 q1
  have r2 := cell_keep hb4 q2
  have hbR := bel_keep hb4 hbQ
  clear q0 q1 q2 hbQ hb4
  go_wp2_with (go_at_call 12; refine (HX.out _ (hV.nums.below hbR)).mono ?_)
  rintro e w5 ⟨rfl, hb5⟩
  have t0 := cell_keep hb5 r0
  have t1 := cell_keep hb5 r1
  have t2 := cell_keep hb5 r2
  have hbT := bel_keep hb5 hbR
  clear r0 r1 r2 hbR hb5
  go_wp2_with (go_at_call 13; refine (HXo.out _).mono ?_)
  rintro e w6 ⟨rfl, hb6⟩
  have u0 := cell_keep hb6 t0
  have u1 := cell_keep hb6 t1
  have u2 := cell_keep hb6 t2
  have hbU := bel_keep hb6 hbT
  clear t0 t1 t2 hbT hb6
  go_wp2_with (go_at_call 14; refine (HN.out _ (hV.nums.below hbU)).mono ?_)
  rintro e w7 ⟨rfl, hb7⟩
  have y0 := cell_keep hb7 u0
  have y1 := cell_keep hb7 u1
  have y2 := cell_keep hb7 u2
  have hbY := bel_keep hb7 hbU
  clear u0 u1 u2 hbU hb7
  go_wp2_with (go_at_call 15; refine (HNo.out _).mono ?_)
  rintro e w8 ⟨q, rfl, hq, hb8⟩
  have v0 := cell_keep hb8 y0
  have v1 := cell_keep hb8 y1
  have v2 := cell_keep hb8 y2
  have hbV := bel_keep hb8 hbY
  clear y0 y1 y2 hbY hb8
  have HQ := Lib.hid hq
  clear hq
  cases tb with
  | false =>
    obtain rfl := HTB.out rfl
    cases f with
    | false =>
      obtain rfl := HXF.out rfl
      go_wp2
      go_region_held3 (fun w' => Below w.heap.size w w' ∧ w'.cell? ⟨w.heap.size, 0, none⟩ = some (.int .i64 k) ∧ w'.cell? ⟨w.heap.size, 1, none⟩ = some (.int .i64 n) ∧ w'.cell? ⟨w.heap.size, 2, none⟩ = some (.string s))
        (first | exact ⟨hbV.drew, v0, v1, v2⟩ | (go_split_ands; exact ⟨bel_keep (by assumption) (by assumption), cell_keep (by assumption) (by assumption), cell_keep (by assumption) (by assumption), cell_keep (by assumption) (by assumption)⟩))
        (first
          | (go_at_call 16; refine (HT.out _).mono ?_; rintro e w12 ⟨rfl, hb12⟩)
          | (go_at_call 17; refine (HTo.out _).mono ?_; rintro e w13 ⟨rfl, hb13⟩)
          | (go_at_call 18; refine (HY.out _).mono ?_; rintro e w14 ⟨rfl, hb14⟩)
          | (go_at_call 19; refine (HYo.out _).mono ?_; rintro e w15 ⟨rfl, hb15⟩)
          | (go_at_call 20; go_split_ands; refine (HS.out _ (hV.below (by assumption))).mono ?_; rintro e w16 ⟨rfl, hb16⟩)
          | (go_at_call 21; refine (HSo.out _).mono ?_; rintro e w17 ⟨rfl, hb17⟩))
      go_split_ands
      go_wp2
      go_ret
      exact ⟨rfl, by assumption⟩
    | true =>
      obtain rfl := HQ.out rfl
      go_wp2
      go_region_held3 (fun w' => Below w.heap.size w w' ∧ w'.cell? ⟨w.heap.size, 0, none⟩ = some (.int .i64 k) ∧ w'.cell? ⟨w.heap.size, 1, none⟩ = some (.int .i64 n) ∧ w'.cell? ⟨w.heap.size, 2, none⟩ = some (.string s))
        (first | exact ⟨hbV.drew, v0, v1, v2⟩ | (go_split_ands; exact ⟨bel_keep (by assumption) (by assumption), cell_keep (by assumption) (by assumption), cell_keep (by assumption) (by assumption), cell_keep (by assumption) (by assumption)⟩))
        (first
          | (go_at_call 16; refine (HT.out _).mono ?_; rintro e w12 ⟨rfl, hb12⟩)
          | (go_at_call 17; refine (HTo.out _).mono ?_; rintro e w13 ⟨rfl, hb13⟩)
          | (go_at_call 18; refine (HY.out _).mono ?_; rintro e w14 ⟨rfl, hb14⟩)
          | (go_at_call 19; refine (HYo.out _).mono ?_; rintro e w15 ⟨rfl, hb15⟩)
          | (go_at_call 20; go_split_ands; refine (HS.out _ (hV.below (by assumption))).mono ?_; rintro e w16 ⟨rfl, hb16⟩)
          | (go_at_call 21; refine (HSo.out _).mono ?_; rintro e w17 ⟨rfl, hb17⟩))
      go_split_ands
      go_wp2
      go_ret
      exact ⟨rfl, by assumption⟩
  | true =>
    cases f with
    | false =>
      obtain rfl := HXF.out rfl
      go_wp2
      go_region_held3 (fun w' => Below w.heap.size w w' ∧ w'.cell? ⟨w.heap.size, 0, none⟩ = some (.int .i64 k) ∧ w'.cell? ⟨w.heap.size, 1, none⟩ = some (.int .i64 n) ∧ w'.cell? ⟨w.heap.size, 2, none⟩ = some (.string s))
        (first | exact ⟨hbV.drew, v0, v1, v2⟩ | (go_split_ands; exact ⟨bel_keep (by assumption) (by assumption), cell_keep (by assumption) (by assumption), cell_keep (by assumption) (by assumption), cell_keep (by assumption) (by assumption)⟩))
        (first
          | (go_at_call 16; refine (HT.out _).mono ?_; rintro e w12 ⟨rfl, hb12⟩)
          | (go_at_call 17; refine (HTo.out _).mono ?_; rintro e w13 ⟨rfl, hb13⟩)
          | (go_at_call 18; refine (HY.out _).mono ?_; rintro e w14 ⟨rfl, hb14⟩)
          | (go_at_call 19; refine (HYo.out _).mono ?_; rintro e w15 ⟨rfl, hb15⟩)
          | (go_at_call 20; go_split_ands; refine (HS.out _ (hV.below (by assumption))).mono ?_; rintro e w16 ⟨rfl, hb16⟩)
          | (go_at_call 21; refine (HSo.out _).mono ?_; rintro e w17 ⟨rfl, hb17⟩))
      go_split_ands
      go_wp2
      go_ret
      exact ⟨rfl, by assumption⟩
    | true =>
      obtain rfl := HQ.out rfl
      go_wp2
      go_region_held3 (fun w' => Below w.heap.size w w' ∧ w'.cell? ⟨w.heap.size, 0, none⟩ = some (.int .i64 k) ∧ w'.cell? ⟨w.heap.size, 1, none⟩ = some (.int .i64 n) ∧ w'.cell? ⟨w.heap.size, 2, none⟩ = some (.string s))
        (first | exact ⟨hbV.drew, v0, v1, v2⟩ | (go_split_ands; exact ⟨bel_keep (by assumption) (by assumption), cell_keep (by assumption) (by assumption), cell_keep (by assumption) (by assumption), cell_keep (by assumption) (by assumption)⟩))
        (first
          | (go_at_call 16; refine (HT.out _).mono ?_; rintro e w12 ⟨rfl, hb12⟩)
          | (go_at_call 17; refine (HTo.out _).mono ?_; rintro e w13 ⟨rfl, hb13⟩)
          | (go_at_call 18; refine (HY.out _).mono ?_; rintro e w14 ⟨rfl, hb14⟩)
          | (go_at_call 19; refine (HYo.out _).mono ?_; rintro e w15 ⟨rfl, hb15⟩)
          | (go_at_call 20; go_split_ands; refine (HS.out _ (hV.below (by assumption))).mono ?_; rintro e w16 ⟨rfl, hb16⟩)
          | (go_at_call 21; refine (HSo.out _).mono ?_; rintro e w17 ⟨rfl, hb17⟩))
      go_split_ands
      go_wp2
      go_ret
      exact ⟨rfl, by assumption⟩

end Go.Proofs.YtadpkhneijoilaaDoor.Vals
