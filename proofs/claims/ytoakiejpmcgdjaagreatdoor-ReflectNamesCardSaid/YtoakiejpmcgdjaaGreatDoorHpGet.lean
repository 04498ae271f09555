/-
  Get.
-/
import Derived.Test.YtoakiejpmcgdjaaGreatDoorHpMake
namespace Go.Proofs.YtoakiejpmcgdjaaGreatDoor.Hp
open Go Go.RowKit Go.Maps Go.Shelf Go.Proofs.YtoakiejpmcgdjaaGreatDoor.Keys
set_option linter.unusedVariables false
set_option linter.unusedSimpArgs false
attribute [local go_sem ↓] ldE ldT bxT bxO bdO bdT alE alT stE stT
attribute [local irreducible] ecs ncs hcs tcs ocs
attribute [local go_sem] run_bx run_alE run_alT run_bdO run_bdT0 tcs_0 tcs_5 tcs_20 tcs_set5 tcs_set20 ocs_24

theorem res2_T {fn : Func} {p u : Tmp} (h : fn.results = #[.cell p 100, .tmp u]) (tmps : Array Value) (w : World) (g : Nat) (t : Th) (hp : tmps.getD p undef = .pointer (some ⟨g, 0, none⟩)) {T : TypeId} (hr : Blk w g (tcs t) T) :
    (results fn tmps).run Tryz.prog w = .ok (.tuple #[.agg (tcs t), tmps.getD u undef]) w := by
  have hv := run_loadVar_row (P := Tryz.prog) w g T 100 (tcs t) (0, 0) _ hr Tryz.underlying100 rfl (by rw [tcs_size]; exact sizeT)
  rw [results_cell_tmp h, hp]
  simp [asAddr, hv, Result.andThen]
theorem get_none (hb : Nat) (room : Int) (a : Option Addr) (n c : Nat) (sy o : Int) (w : World) (h : Blk w hb (hp room (.slice a n c) sy) 57) (ho : o < 0 ∨ (n : Int) ≤ o) :
    Calls Tryz.prog 129 #[ptr hb, .int .i64 o] w fun e w' => e = .returned (.tuple #[.agg (tcs zeroT), .bool false]) ∧ Below w.heap.size w w' := by
  obtain ⟨w1, hw1⟩ : ∃ w1, w.alloc (.cells (tcs zeroT) 100) = w1 := ⟨_, rfl⟩
  have b1 : Below w.heap.size w w1 := by rw [← hw1]; exact (Below.refl _ w).alloc (Nat.le_refl _) _
  have x1 : Blk w1 w.heap.size (tcs zeroT) 100 := by rw [← hw1]; exact Blk.new w _ _
  have hob := object_none hb room a n c sy o w1 (h.call b1) ho
  have hst : (St 100 (.pointer (some ⟨w.heap.size, 0, none⟩)) (.agg (tcs zeroT))).run Tryz.prog w1 = .ok () w1 := by rw [← hw1]; exact run_stT w zeroT zeroT zeroT_ok
  have B1 := Lib.hid b1
  have X1 := Lib.hid x1
  clear b1 x1 h ho
  go_enter Tryz.func129, Tryz.ntmps129
  go_wp2_with (go_at_call 70; refine hob.mono ?_; rintro e w2 ⟨rfl, rfl⟩)
  refine bodyPost_ret (res2_T rfl _ _ w.heap.size zeroT rfl X1.out) rfl ?_
  exact ⟨rfl, B1.out⟩
theorem own_shape {w : World} {base : Nat} {e : TypeId} {size n : Nat} {v : Value} {xs : List Value} (h : w.ownsRow base e size v n xs) : ∃ a c, v = .slice a n c := by
  rcases h.2 with ⟨rfl, rfl⟩ | ⟨g, cap, cur, rfl, _⟩
  · exact ⟨none, 0, rfl⟩
  · exact ⟨_, cap, rfl⟩
theorem own_row {base : Nat} {e t : TypeId} {size n b : Nat} {v : Value} {xs : List Value} {cs ds : Array Value} {w : World} (h : w.ownsRow base e size v n xs) (hb : Blk w b cs t) (hte : t ≠ e) : (w.setRow b ds).ownsRow base e size v n xs := by
  refine h.kept (row := some b) ⟨rfl, rfl, rfl, by simp, fun k _ hk => setRow_other w b k ds (fun e => hk (by rw [e]))⟩ (.inr (own_ne h hb hte))
/-- How Get ends, where there is an object. -/
def GetPost (w : World) (th : Th) (es : List En) (vs : List Vl) (y : Ending) (w' : World) : Prop := ∃ a c a' c', y = .returned (.tuple #[.agg (tcs { th with props := .slice a es.length c, args := .slice a' vs.length c' }), .bool true]) ∧
  w'.ownsRow w.heap.size 83 20 (.slice a es.length c) es.length (cellsE es) ∧ w'.ownsRow w.heap.size 30 3 (.slice a' vs.length c') vs.length (cellsV vs) ∧ Below w.heap.size w w'
set_option maxRecDepth 100000 in
set_option maxHeartbeats 2000000 in
theorem get_some (hb rb ob pb mb m n c o base : Nat) (room sy : Int) (th : Th) (es : List En) (vs : List Vl) (ns : List Nd) (w : World) (h : Blk w hb (hp room (.slice (some ⟨rb, 0, none⟩) n c) sy) 57) (ho : o < n) (hc : w.cell? ⟨rb, o, none⟩ = some (ptr ob))
    (hat : ObjAt w base ob pb mb m th es vs ns) (hm : m ≤ 1000) (hes : es.length ≤ 100) (aa : Option Addr) (al ac : Nat) (harg : th.args = .slice aa al ac) (hcl : ∀ w', Below w.heap.size w w' → Calls Tryz.prog 60 #[.slice aa al ac] w' (ClonePost w' vs)) :
    Calls Tryz.prog 129 #[ptr hb, .int .i64 o] w (GetPost w th es vs) := by
  obtain ⟨w1, hw1⟩ : ∃ w1, w.alloc (.cells (tcs zeroT) 100) = w1 := ⟨_, rfl⟩
  have b1 : Below w.heap.size w w1 := by rw [← hw1]; exact (Below.refl _ w).alloc (Nat.le_refl _) _
  have k1 : w1.heap.size = w.heap.size + 1 := by rw [← hw1]; simp
  have x1 : Blk w1 w.heap.size (tcs zeroT) 100 := by rw [← hw1]; exact Blk.new w _ _
  have hat1 := hat.below b1
  have hc1 : w1.cell? ⟨rb, o, none⟩ = some (ptr ob) := (b1.cell (World.block_lt_of_cell? w _ hc)).trans hc
  have hob := object_some hb rb ob room n c o sy w1 (h.call b1) ho hc1
  have lo := run_ldO hat1.blk
  have tok : th.ok := ⟨⟨_, _, _, hat.props⟩, ⟨_, _, _, harg⟩⟩
  obtain ⟨w2, hw2⟩ : ∃ w2, w1.alloc (.cells (tcs th) 100) = w2 := ⟨_, rfl⟩
  have hst : (St 100 (.pointer (some ⟨w1.heap.size, 0, none⟩)) (.agg (tcs th))).run Tryz.prog (w1.alloc (.cells (tcs zeroT) 100)) = .ok () w2 := by rw [← hw2]; exact run_stT w1 th zeroT tok
  rw [k1] at hst
  have b12 : Below w1.heap.size w1 w2 := by rw [← hw2]; exact (Below.refl _ w1).alloc (Nat.le_refl _) _
  have b2 : Below w.heap.size w w2 := b1.trans (b12.mono (by omega))
  have k2 : w2.heap.size = w.heap.size + 2 := by rw [← hw2]; simp [k1]
  have hat2 := hat1.below b12
  have x2 := x1.call b12
  have y2 : Blk w2 (w.heap.size + 1) (tcs th) 100 := by
    have := Blk.new w1 (tcs th) 100
    rw [hw2, k1] at this
    exact this
  have c24 : w2.cell? ⟨ob, 24, none⟩ = some (.pointer (some ⟨pb, 0, none⟩)) := by rw [hat2.blk.cell, ocs_24]
  have hlen : ns.length ≤ 100 := by rw [← hat.es] at hes; simpa using hes
  have hen := entries_any pb mb m ns w2 hat2.obj hm hlen
  rw [hat2.es] at hen
  have B2 := Lib.hid b2
  have X2 := Lib.hid x2
  have Y2 := Lib.hid y2
  have HCL := Lib.hid hcl
  have HARG := Lib.hid harg
  have HPROPS := Lib.hid hat.props
  clear b1 x1 hat1 hc1 b12 b2 hat2 x2 y2 hcl harg h hat hc ho tok hw2 hes hlen
  go_enter Tryz.func129, Tryz.ntmps129
  go_wp2_with (first | (go_at_call 70; refine hob.mono ?_; rintro e wz ⟨rfl, rfl⟩) | (go_at_call 175; refine hen.mono ?_; rintro e w3 ⟨v, rfl, hrow, hb3⟩; refine Hid.out ?_))
  refine Lib.hid ?_
  obtain ⟨a, cv, rfl⟩ := own_shape hrow
  have b3 := B2.out.trans (hb3.mono (by omega))
  have x3 := X2.out.call hb3
  have y3 := Y2.out.call hb3
  have d5 : w3.cell? ⟨w.heap.size + 1, 5, none⟩ = some th.props := by rw [y3.cell, tcs_5]
  have f5 := y3.frozen 5
  obtain ⟨w4, hw4⟩ : ∃ w4, w3.setCell ⟨w.heap.size + 1, 5, none⟩ (.slice a es.length cv) = w4 := ⟨_, rfl⟩
  have b4 : Below w.heap.size w w4 := by rw [← hw4]; exact b3.setCell (p := ⟨w.heap.size + 1, 5, none⟩) (by simp) _
  have y4 : Blk w4 (w.heap.size + 1) (tcs { th with props := .slice a es.length cv }) 100 := by
    have := y3.set 5 (.slice a es.length cv)
    rw [tcs_set5, hw4] at this
    exact this
  have x4 : Blk w4 w.heap.size (tcs zeroT) 100 := by rw [← hw4]; exact x3.other _ _ (by simp)
  have r4 : w4.ownsRow w.heap.size 83 20 (.slice a es.length cv) es.length (cellsE es) := by rw [← hw4]; exact own_set (hrow.mono (by omega)) y3 (by decide) _ _
  have c20 : w4.cell? ⟨w.heap.size + 1, 20, none⟩ = some (.slice aa al ac) := by rw [y4.cell, tcs_20]; exact congrArg some HARG.out
  have hc4 := HCL.out w4 b4
  have B4 := Lib.hid b4
  have X4 := Lib.hid x4
  have Y4 := Lib.hid y4
  have R4 := Lib.hid r4
  clear hob lo hst c24 hen hrow hb3 b3 x3 y3 b4 x4 y4 r4 hw1
  go_wp2_with (go_at_call 60; refine hc4.mono ?_; rintro e w5 ⟨a', m', c', rfl, hrow5, hb5⟩; refine Hid.out ?_)
  refine Lib.hid ?_
  obtain ⟨a2, c2, hsh⟩ := own_shape hrow5
  obtain ⟨rfl, rfl, rfl⟩ : a' = a2 ∧ m' = vs.length ∧ c' = c2 := by simpa using hsh
  clear hsh
  have sz4 := B4.out.size
  have b5 := B4.out.trans (hb5.mono sz4)
  have x5 := X4.out.call hb5
  have y5 := Y4.out.call hb5
  have r5 := own_below R4.out hb5
  have d20 : w5.cell? ⟨w.heap.size + 1, 20, none⟩ = some (.slice aa al ac) := by rw [y5.cell, tcs_20]; exact congrArg some HARG.out
  have f20 := y5.frozen 20
  obtain ⟨t', ht'⟩ : ∃ t', t' = ({ th with props := .slice a es.length cv, args := .slice a' vs.length c' } : Th) := ⟨_, rfl⟩
  obtain ⟨w6, hw6⟩ : ∃ w6, w5.setCell ⟨w.heap.size + 1, 20, none⟩ (.slice a' vs.length c') = w6 := ⟨_, rfl⟩
  have b6 : Below w.heap.size w w6 := by rw [← hw6]; exact b5.setCell (p := ⟨w.heap.size + 1, 20, none⟩) (by simp) _
  have y6 : Blk w6 (w.heap.size + 1) (tcs t') 100 := by
    have := y5.set 20 (.slice a' vs.length c')
    rw [tcs_set20, hw6] at this
    rw [ht']
    exact this
  have x6 : Blk w6 w.heap.size (tcs zeroT) 100 := by rw [← hw6]; exact x5.other _ _ (by simp)
  have r6 : w6.ownsRow w.heap.size 83 20 (.slice a es.length cv) es.length (cellsE es) := by rw [← hw6]; exact own_set r5 y5 (by decide) _ _
  have q6 : w6.ownsRow w.heap.size 30 3 (.slice a' vs.length c') vs.length (cellsV vs) := by rw [← hw6]; exact own_set (hrow5.mono sz4) y5 (by decide) _ _
  have lt := run_ldT y6
  have tok' : t'.ok := by rw [ht']; exact ⟨⟨_, _, _, rfl⟩, ⟨_, _, _, rfl⟩⟩
  have hst := run_st_row x6 (T := 100) (cs := tcs t') (by rw [tcs_size]; exact sizeT) (by rw [tcs_size, tcs_size]) (tcs_one tok')
  obtain ⟨w7, hw7⟩ : ∃ w7, w6.setRow w.heap.size (tcs t') = w7 := ⟨_, rfl⟩
  rw [hw7] at hst
  have hend : Hid (GetPost w th es vs (.returned (.tuple #[.agg (tcs t'), .bool true])) w7) := by
    rw [← hw7]
    refine ⟨a, cv, a', c', by rw [ht'], own_row r6 x6 (by decide), own_row q6 x6 (by decide), b6.trans ⟨rfl, rfl, rfl, by simp, fun k hk => setRow_other w6 w.heap.size k _ (by omega)⟩⟩
  have x7 : Hid (Blk w7 w.heap.size (tcs t') 100) := by rw [← hw7]; exact x6.row _
  clear hc4 d5 f5 hw4 c20 hrow5 hb5 b5 x5 y5 r5 b6 y6 x6 r6 q6 tok' hw7 ht'
  go_wp2
  refine bodyPost_ret (res2_T rfl _ _ w.heap.size t' rfl x7.out) rfl ?_
  exact hend.out
end Go.Proofs.YtoakiejpmcgdjaaGreatDoor.Hp
