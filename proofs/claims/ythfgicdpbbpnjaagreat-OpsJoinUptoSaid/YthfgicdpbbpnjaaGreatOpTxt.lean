/-
  The texts of a string and of the number 1.
-/
import Derived.Test.YthfgicdpbbpnjaaGreatOpVal
import Derived.Test.YthfgicdpbbpnjaaGreatShelf
import Derived.Stop.Asserts
namespace Go.Proofs.YthfgicdpbbpnjaaGreat.Vals
open Go.RowKit Go.Proofs.YthfgicdpbbpnjaaGreat.Nums
set_option linter.unusedVariables false

theorem kindOf_3 (n : Int) (s : ByteArray) (w : World) : Calls Tryz.prog 92 #[V 3 n s] w fun e w' => e = .returned (.iface 134 (.int .i64 n)) ∧ Below w.heap.size w w' := by
  go_enter Tryz.func92, Tryz.ntmps92
  go_wp2
  go_ret
  exact ⟨rfl, ball _ _⟩
theorem kindOf_4 (n : Int) (s : ByteArray) (w : World) : Calls Tryz.prog 92 #[V 4 n s] w fun e w' => e = .returned (.iface 135 (.string s)) ∧ Below w.heap.size w w' := by
  go_enter Tryz.func92, Tryz.ntmps92
  go_wp2
  go_ret
  exact ⟨rfl, ball _ _⟩
/-- A key. -/
abbrev K (t : ByteArray) (y : Int) : Value := .agg #[.string t, .int .i64 y]
def keyRet (t : ByteArray) (y : Int) (ok : Bool) : Ending := .returned (.tuple #[K t y, .bool ok])
theorem sym_3 (v : Value) (w : World) : (Instr.typeAssert (.iface 134 v) 122 124 true).run Tryz.prog w = .ok (.tuple #[.int .i64 0, .bool false]) w := by kernel_rfl
theorem txt_3 (v : Value) (w : World) : (Instr.typeAssert (.iface 134 v) 122 127 true).run Tryz.prog w = .ok (.tuple #[.iface 134 v, .bool true]) w := run_typeAssert_hasB Tryz.underlying127 (by kernel_rfl) v _ w
theorem inv_3 (d : Nat) (v : Value) (w : World) : (method (d + 1) 134 v "understudy/keys.text").run Tryz.prog w = .ok (124, v) w := by kernel_rfl
theorem sym_4 (v : Value) (w : World) : (Instr.typeAssert (.iface 135 v) 122 124 true).run Tryz.prog w = .ok (.tuple #[.int .i64 0, .bool false]) w := by kernel_rfl
theorem txt_4 (v : Value) (w : World) : (Instr.typeAssert (.iface 135 v) 122 127 true).run Tryz.prog w = .ok (.tuple #[.iface 135 v, .bool true]) w := run_typeAssert_hasB Tryz.underlying127 (by kernel_rfl) v _ w
theorem inv_4 (d : Nat) (v : Value) (w : World) : (method (d + 1) 135 v "understudy/keys.text").run Tryz.prog w = .ok (125, v) w := by kernel_rfl
theorem m_str (s : ByteArray) (w : World) : Calls Tryz.prog 125 #[.string s] w fun e w' => e = .returned (.string s) ∧ Below w.heap.size w w' := by
  go_enter Tryz.func125, Tryz.ntmps125
  go_wp2
  go_ret
  exact ⟨rfl, Below.refl _ _⟩
theorem two_bel (w : World) (o o' : Obj) : Below w.heap.size w ((w.alloc o).alloc o') := ((Below.refl _ _).alloc (Nat.le_refl _) _).alloc (by simp) _
/-- The cell of a result that is a key. -/
def Res (b : Nat) (w : World) : Prop := w.heap[b]? = some (.cells #[.string ⟨#[]⟩, .int .i64 0] 118 (0, 0))
theorem res_new {w w1 : World} {o : Obj} (hb : Below ((w.alloc o).alloc (.cells #[.string ⟨#[]⟩, .int .i64 0] 118)).heap.size ((w.alloc o).alloc (.cells #[.string ⟨#[]⟩, .int .i64 0] 118)) w1) : Res (w.heap.size + 1) w1 := by
  have h := heap_alloc_new (w.alloc o) (.cells #[.string ⟨#[]⟩, .int .i64 0] 118)
  have e : (w.alloc o).heap.size = w.heap.size + 1 := by simp
  rw [e] at h
  unfold Res
  rw [hb.block _ (by simp)]
  exact h
theorem Res.keep {b : Nat} {w w' : World} (h : Res b w) (hb : Below w.heap.size w w') : Res b w' := (hb.block b (Array.getElem?_eq_some_iff.1 h).1).trans h
theorem Res.facts {b : Nat} {w : World} (h : Res b w) : w.cell? ⟨b, 0, none⟩ = some (.string ⟨#[]⟩) ∧ w.cell? ⟨b, 1, none⟩ = some (.int .i64 0) ∧ w.frozen? ⟨b, 0, none⟩ = false ∧ w.frozen? ⟨b, 1, none⟩ = false :=
  ⟨by rw [Lib.cell_of_heap h]; rfl, by rw [Lib.cell_of_heap h]; rfl, Lib.frozen_of_heap h 0, Lib.frozen_of_heap h 1⟩
theorem Res.store {b : Nat} {w : World} (h : Res b w) (x y : Value) : ((w.setCell ⟨b, 0, none⟩ x).setCell ⟨b, 1, none⟩ y).cell? ⟨b, 0, none⟩ = some x ∧ ((w.setCell ⟨b, 0, none⟩ x).setCell ⟨b, 1, none⟩ y).cell? ⟨b, 1, none⟩ = some y ∧ (w.setCell ⟨b, 0, none⟩ x).cell? ⟨b, 1, none⟩ = some (.int .i64 0) ∧ (w.setCell ⟨b, 0, none⟩ x).frozen? ⟨b, 1, none⟩ = false := by
  unfold Res at h
  simp [World.cell?, World.frozen?, World.setCell, Array.getElem?_modify, h]
theorem bel_store {w w2 : World} (h : Below w.heap.size w w2) (x y : Value) : Below w.heap.size w ((w2.setCell ⟨w.heap.size + 1, 0, none⟩ x).setCell ⟨w.heap.size + 1, 1, none⟩ y) :=
  (h.setCell (p := ⟨w.heap.size + 1, 0, none⟩) (Nat.le_succ _) _).setCell (p := ⟨w.heap.size + 1, 1, none⟩) (Nat.le_succ _) _
set_option maxRecDepth 100000 in
set_option maxHeartbeats 1000000 in
theorem of_4 (n : Int) (s : ByteArray) (w : World) : Calls Tryz.prog 89 #[V 4 n s] w fun e w' => e = keyRet s 0 true ∧ Below w.heap.size w w' := by
  have h1 := sym_4
  have h2 := txt_4
  have h3 := inv_4
  go_enter Tryz.func89, Tryz.ntmps89
  go_wp2_with (go_at_call 92; refine (kindOf_4 n s _).mono ?_)
  rintro e w1 ⟨rfl, hb⟩
  have hR := res_new hb
  have hbel1 := (two_bel w _ _).trans (hb.mono (by simp; omega))
  have hb1 := Lib.hid hb
  clear hb
  go_wp2_with (go_at_call 125; refine (m_str s _).mono ?_)
  rintro e w2 ⟨rfl, hb2⟩
  have hR2 := hR.keep hb2
  have hbel := hbel1.trans (hb2.mono hbel1.size)
  obtain ⟨c0, c1, f0, f1⟩ := hR2.facts
  obtain ⟨s0, s1, s2, s3⟩ := hR2.store (.string (s)) (.int .i64 (0))
  go_wp2
  (try simp only [Exit.inBlock, Exit.then])
  exact bodyPost_ret (v := .tuple #[K (s) (0), .bool true]) (by simp [results, Tryz.results89, s0, s1, go_sem]) rfl ⟨rfl, bel_store hbel _ _⟩
set_option maxRecDepth 100000 in
set_option maxHeartbeats 1000000 in
theorem text_4 (n : Int) (s : ByteArray) (w : World) : Calls Tryz.prog 87 #[V 4 n s] w fun e w' => e = .returned (.tuple #[.string s, .bool true]) ∧ Below w.heap.size w w' := by
  go_enter Tryz.func87, Tryz.ntmps87
  go_wp2_with (go_at_call 89; refine (of_4 n s _).mono ?_)
  rintro e w1 ⟨rfl, hb⟩
  unfold keyRet
  go_wp2
  go_ret2
  exact ⟨rfl, (bnext (ball _ _) hb).alloc ((bnext (ball _ _) hb).size) _⟩

theorem m_one (w : World) : Calls Tryz.prog 124 #[.int .i64 1] w fun e w' => e = .returned (.string ⟨#[49]⟩) ∧ Below w.heap.size w w' := by
  have h1 : ∀ w, Calls Tryz.prog 95 #[.int .i64 1] w fun e w' => e = .returned (.string ⟨#[49]⟩) ∧ w' = w := fun w => (Tryz.strconv_Itoa_small 1 (by decide) w).mono fun e w' ⟨h, h2⟩ => ⟨h.trans (by rw [show Lib.decDigits 1 = [49] by decide +kernel]), h2⟩
  have H1 := Lib.hid h1
  clear h1
  have h2 : ∀ w, Calls Tryz.prog 91 #[.int .i64 1] w fun e w' => e = .returned (.string ⟨#[49]⟩) ∧ w' = w := fun w => by
    go_enter Tryz.func91, Tryz.ntmps91
    go_wp2_with (go_at_call 95; refine (H1.out _).mono ?_; rintro e w' ⟨rfl, rfl⟩)
    go_ret
    exact ⟨rfl, rfl⟩
  have H2 := Lib.hid h2
  clear h2 H1
  go_enter Tryz.func124, Tryz.ntmps124
  go_wp2_with (go_at_call 91; refine (H2.out _).mono ?_; rintro e w' ⟨rfl, rfl⟩)
  go_ret
  exact ⟨rfl, Below.refl _ _⟩
set_option maxRecDepth 100000 in
set_option maxHeartbeats 1000000 in
theorem of_one (s t : ByteArray) (ht : t = ⟨#[49]⟩) (w : World) : Calls Tryz.prog 89 #[V 3 1 s] w fun e w' => e = keyRet t 0 true ∧ Below w.heap.size w w' := by
  have hm := fun w => m_one w
  rw [← ht] at hm
  have HM := Lib.hid hm
  clear ht hm
  have h1 := sym_3
  have h2 := txt_3
  have h3 := inv_3
  go_enter Tryz.func89, Tryz.ntmps89
  go_wp2_with (go_at_call 92; refine (kindOf_3 1 s _).mono ?_)
  rintro e w1 ⟨rfl, hb⟩
  have hR := res_new hb
  have hbel1 := (two_bel w _ _).trans (hb.mono (by simp; omega))
  have hb1 := Lib.hid hb
  clear hb
  go_wp2_with (go_at_call 124; refine (HM.out _).mono ?_)
  rintro e w2 ⟨rfl, hb2⟩
  have hR2 := hR.keep hb2
  have hbel := hbel1.trans (hb2.mono hbel1.size)
  obtain ⟨c0, c1, f0, f1⟩ := hR2.facts
  obtain ⟨s0, s1, s2, s3⟩ := hR2.store (.string (t)) (.int .i64 (0))
  go_wp2
  (try simp only [Exit.inBlock, Exit.then])
  exact bodyPost_ret (v := .tuple #[K (t) (0), .bool true]) (by simp [results, Tryz.results89, s0, s1, go_sem]) rfl ⟨rfl, bel_store hbel _ _⟩
set_option maxRecDepth 100000 in
set_option maxHeartbeats 1000000 in
theorem text_one (s t : ByteArray) (ht : t = ⟨#[49]⟩) (w : World) : Calls Tryz.prog 87 #[V 3 1 s] w fun e w' => e = .returned (.tuple #[.string t, .bool true]) ∧ Below w.heap.size w w' := by
  have hm := fun w => of_one s t ht w
  have HM := Lib.hid hm
  clear hm ht
  go_enter Tryz.func87, Tryz.ntmps87
  go_wp2_with (go_at_call 89; refine (HM.out _).mono ?_)
  rintro e w1 ⟨rfl, hb⟩
  unfold keyRet
  go_wp2
  go_ret2
  exact ⟨rfl, (bnext (ball _ _) hb).alloc ((bnext (ball _ _) hb).size) _⟩
end Go.Proofs.YthfgicdpbbpnjaaGreat.Vals
