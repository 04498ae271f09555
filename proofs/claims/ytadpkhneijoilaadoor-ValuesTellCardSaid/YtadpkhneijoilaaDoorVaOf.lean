/-
  keys.kindOf and keys.Of: what they give, kind by kind.
-/
import Derived.Test.YtadpkhneijoilaaDoorVaKind
import Derived.Test.YtadpkhneijoilaaDoorNmText
import Derived.Stop.Asserts
namespace Go.Proofs.YtadpkhneijoilaaDoor.Vals
open Go.RowKit Go.Proofs.YtadpkhneijoilaaDoor.Nums
set_option linter.unusedVariables false

theorem kindOf_0 (n : Int) (s : ByteArray) (w : World) : Calls Tryd.prog 37 #[V 0 n s] w fun e w' => e = .returned (.iface 80 (.agg #[])) ∧ Below w.heap.size w w' := by
  go_enter Tryd.func37, Tryd.ntmps37
  go_wp2
  go_ret
  exact ⟨rfl, ball _ _⟩
theorem kindOf_1 (n : Int) (s : ByteArray) (w : World) : Calls Tryd.prog 37 #[V 1 n s] w fun e w' => e = .returned (.iface 81 (.agg #[])) ∧ Below w.heap.size w w' := by
  go_enter Tryd.func37, Tryd.ntmps37
  go_wp2
  go_ret
  exact ⟨rfl, ball _ _⟩
theorem kindOf_2 (n : Int) (s : ByteArray) (w : World) : Calls Tryd.prog 37 #[V 2 n s] w fun e w' => e = .returned (.iface 82 (.bool (n != 0))) ∧ Below w.heap.size w w' := by
  go_enter Tryd.func37, Tryd.ntmps37
  go_wp2
  go_ret
  exact ⟨rfl, ball _ _⟩
theorem kindOf_3 (n : Int) (s : ByteArray) (w : World) : Calls Tryd.prog 37 #[V 3 n s] w fun e w' => e = .returned (.iface 83 (.int .i64 n)) ∧ Below w.heap.size w w' := by
  go_enter Tryd.func37, Tryd.ntmps37
  go_wp2
  go_ret
  exact ⟨rfl, ball _ _⟩
theorem kindOf_4 (n : Int) (s : ByteArray) (w : World) : Calls Tryd.prog 37 #[V 4 n s] w fun e w' => e = .returned (.iface 84 (.string s)) ∧ Below w.heap.size w w' := by
  go_enter Tryd.func37, Tryd.ntmps37
  go_wp2
  go_ret
  exact ⟨rfl, ball _ _⟩
theorem kindOf_5 (n : Int) (s : ByteArray) (w : World) : Calls Tryd.prog 37 #[V 5 n s] w fun e w' => e = .returned (.iface 58 (.int .i64 n)) ∧ Below w.heap.size w w' := by
  go_enter Tryd.func37, Tryd.ntmps37
  go_wp2
  go_ret
  exact ⟨rfl, ball _ _⟩
theorem kindOf_6 (n : Int) (s : ByteArray) (w : World) : Calls Tryd.prog 37 #[V 6 n s] w fun e w' => e = .returned (.iface 85 (.int .i64 n)) ∧ Below w.heap.size w w' := by
  go_enter Tryd.func37, Tryd.ntmps37
  go_wp2
  go_ret
  exact ⟨rfl, ball _ _⟩
theorem kindOf_k (k n : Int) (s : ByteArray) (hk : NoKind k) (w : World) : Calls Tryd.prog 37 #[V k n s] w fun e w' => e = .returned .nilIface ∧ Below w.heap.size w w' := by
  obtain ⟨e0, e1, e2, e3, e4, e5, e6⟩ := hk
  go_enter Tryd.func37, Tryd.ntmps37
  go_wp2
  go_ret
  exact ⟨rfl, ball _ _⟩

/-- A key. -/
abbrev K (t : ByteArray) (y : Int) : Value := .agg #[.string t, .int .i64 y]
def keyRet (t : ByteArray) (y : Int) (ok : Bool) : Ending := .returned (.tuple #[K t y, .bool ok])

theorem sym_0 (v : Value) (w : World) : (Instr.typeAssert (.iface 80 v) 56 58 true).run Tryd.prog w = .ok (.tuple #[.int .i64 0, .bool false]) w := by kernel_rfl
theorem txt_0 (v : Value) (w : World) : (Instr.typeAssert (.iface 80 v) 56 61 true).run Tryd.prog w = .ok (.tuple #[.iface 80 v, .bool true]) w := run_typeAssert_hasB Tryd.underlying61 (by kernel_rfl) v _ w
theorem inv_0 (d : Nat) (v : Value) (w : World) : (method (d + 1) 80 v "understudy/keys.text").run Tryd.prog w = .ok (112, v) w := by kernel_rfl
theorem sym_1 (v : Value) (w : World) : (Instr.typeAssert (.iface 81 v) 56 58 true).run Tryd.prog w = .ok (.tuple #[.int .i64 0, .bool false]) w := by kernel_rfl
theorem txt_1 (v : Value) (w : World) : (Instr.typeAssert (.iface 81 v) 56 61 true).run Tryd.prog w = .ok (.tuple #[.iface 81 v, .bool true]) w := run_typeAssert_hasB Tryd.underlying61 (by kernel_rfl) v _ w
theorem inv_1 (d : Nat) (v : Value) (w : World) : (method (d + 1) 81 v "understudy/keys.text").run Tryd.prog w = .ok (113, v) w := by kernel_rfl
theorem sym_2 (v : Value) (w : World) : (Instr.typeAssert (.iface 82 v) 56 58 true).run Tryd.prog w = .ok (.tuple #[.int .i64 0, .bool false]) w := by kernel_rfl
theorem txt_2 (v : Value) (w : World) : (Instr.typeAssert (.iface 82 v) 56 61 true).run Tryd.prog w = .ok (.tuple #[.iface 82 v, .bool true]) w := run_typeAssert_hasB Tryd.underlying61 (by kernel_rfl) v _ w
theorem inv_2 (d : Nat) (v : Value) (w : World) : (method (d + 1) 82 v "understudy/keys.text").run Tryd.prog w = .ok (114, v) w := by kernel_rfl
theorem sym_3 (v : Value) (w : World) : (Instr.typeAssert (.iface 83 v) 56 58 true).run Tryd.prog w = .ok (.tuple #[.int .i64 0, .bool false]) w := by kernel_rfl
theorem txt_3 (v : Value) (w : World) : (Instr.typeAssert (.iface 83 v) 56 61 true).run Tryd.prog w = .ok (.tuple #[.iface 83 v, .bool true]) w := run_typeAssert_hasB Tryd.underlying61 (by kernel_rfl) v _ w
theorem inv_3 (d : Nat) (v : Value) (w : World) : (method (d + 1) 83 v "understudy/keys.text").run Tryd.prog w = .ok (115, v) w := by kernel_rfl
theorem sym_4 (v : Value) (w : World) : (Instr.typeAssert (.iface 84 v) 56 58 true).run Tryd.prog w = .ok (.tuple #[.int .i64 0, .bool false]) w := by kernel_rfl
theorem txt_4 (v : Value) (w : World) : (Instr.typeAssert (.iface 84 v) 56 61 true).run Tryd.prog w = .ok (.tuple #[.iface 84 v, .bool true]) w := run_typeAssert_hasB Tryd.underlying61 (by kernel_rfl) v _ w
theorem inv_4 (d : Nat) (v : Value) (w : World) : (method (d + 1) 84 v "understudy/keys.text").run Tryd.prog w = .ok (116, v) w := by kernel_rfl
theorem sym_5 (v : Value) (w : World) : (Instr.typeAssert (.iface 58 v) 56 58 true).run Tryd.prog w = .ok (.tuple #[v, .bool true]) w := by kernel_rfl
theorem sym_6 (v : Value) (w : World) : (Instr.typeAssert (.iface 85 v) 56 58 true).run Tryd.prog w = .ok (.tuple #[.int .i64 0, .bool false]) w := by kernel_rfl
theorem txt_6 (v : Value) (w : World) : (Instr.typeAssert (.iface 85 v) 56 61 true).run Tryd.prog w = .ok (.tuple #[.nilIface, .bool false]) w := run_typeAssert_lacksB Tryd.underlying61 (by kernel_rfl) (by kernel_rfl) v _ w
theorem sym_n (w : World) : (Instr.typeAssert .nilIface 56 58 true).run Tryd.prog w = .ok (.tuple #[.int .i64 0, .bool false]) w := by kernel_rfl
theorem txt_n (w : World) : (Instr.typeAssert .nilIface 56 61 true).run Tryd.prog w = .ok (.tuple #[.nilIface, .bool false]) w := by kernel_rfl
theorem m_undefined  (w : World) : Calls Tryd.prog 112 #[.agg #[]] w fun e w' => e = .returned (.string ⟨#[117, 110, 100, 101, 102, 105, 110, 101, 100]⟩) ∧ Below w.heap.size w w' := by
  go_enter Tryd.func112, Tryd.ntmps112
  go_wp2
  go_ret
  exact ⟨rfl, ball _ _⟩

theorem m_null  (w : World) : Calls Tryd.prog 113 #[.agg #[]] w fun e w' => e = .returned (.string ⟨#[110, 117, 108, 108]⟩) ∧ Below w.heap.size w w' := by
  go_enter Tryd.func113, Tryd.ntmps113
  go_wp2
  go_ret
  exact ⟨rfl, ball _ _⟩

theorem m_boolean_t  (w : World) : Calls Tryd.prog 114 #[.bool true] w fun e w' => e = .returned (.string ⟨#[116, 114, 117, 101]⟩) ∧ Below w.heap.size w w' := by
  go_enter Tryd.func114, Tryd.ntmps114
  go_wp2
  go_ret
  exact ⟨rfl, Below.refl _ _⟩

theorem m_boolean_f  (w : World) : Calls Tryd.prog 114 #[.bool false] w fun e w' => e = .returned (.string ⟨#[102, 97, 108, 115, 101]⟩) ∧ Below w.heap.size w w' := by
  go_enter Tryd.func114, Tryd.ntmps114
  go_wp2
  go_ret
  exact ⟨rfl, Below.refl _ _⟩

theorem m_str (s : ByteArray) (w : World) : Calls Tryd.prog 116 #[.string s] w fun e w' => e = .returned (.string s) ∧ Below w.heap.size w w' := by
  go_enter Tryd.func116, Tryd.ntmps116
  go_wp2
  go_ret
  exact ⟨rfl, Below.refl _ _⟩

theorem m_number (n : Int) (h0 : -9223372036854775808 ≤ n) (h1 : n ≤ 9223372036854775807) (w : World) (hL : Lw w) : Calls Tryd.prog 115 #[.int .i64 n] w fun e w' => e = .returned (.string ⟨(Lib.itoa n).toArray⟩) ∧ Below w.heap.size w w' := by
  have hc := fun w hL => text_any n h0 h1 w hL
  generalize (⟨(Lib.itoa n).toArray⟩ : ByteArray) = t at hc ⊢
  go_enter Tryd.func115, Tryd.ntmps115
  go_wp2_with (go_at_call 39; refine (hc _ hL).mono ?_; rintro e w' ⟨rfl, hb⟩)
  go_ret
  exact ⟨rfl, hb⟩

theorem two_bel (w : World) (o o' : Obj) : Below w.heap.size w ((w.alloc o).alloc o') := ((Below.refl _ _).alloc (Nat.le_refl _) _).alloc (by simp) _
/-- The cell of a result that is a key. -/
def Res (b : Nat) (w : World) : Prop := w.heap[b]? = some (.cells #[.string ⟨#[]⟩, .int .i64 0] 45 (0, 0))
theorem res_new {w w1 : World} {o : Obj} (hb : Below ((w.alloc o).alloc (.cells #[.string ⟨#[]⟩, .int .i64 0] 45)).heap.size ((w.alloc o).alloc (.cells #[.string ⟨#[]⟩, .int .i64 0] 45)) w1) : Res (w.heap.size + 1) w1 := by
  have h := heap_alloc_new (w.alloc o) (.cells #[.string ⟨#[]⟩, .int .i64 0] 45)
  have e : (w.alloc o).heap.size = w.heap.size + 1 := by simp
  rw [e] at h
  unfold Res
  rw [hb.block _ (by simp)]
  exact h
theorem Res.keep {b : Nat} {w w' : World} (h : Res b w) (hb : Below w.heap.size w w') : Res b w' := (hb.block b (Array.getElem?_eq_some_iff.1 h).1).trans h
theorem Res.facts {b : Nat} {w : World} (h : Res b w) : w.cell? ⟨b, 0, none⟩ = some (.string ⟨#[]⟩) ∧ w.cell? ⟨b, 1, none⟩ = some (.int .i64 0) ∧ w.frozen? ⟨b, 0, none⟩ = false ∧ w.frozen? ⟨b, 1, none⟩ = false :=
  ⟨by rw [Lib.cell_of_heap h]; rfl, by rw [Lib.cell_of_heap h]; rfl, Lib.frozen_of_heap h 0, Lib.frozen_of_heap h 1⟩
theorem Res.store {b : Nat} {w : World} (h : Res b w) (x y : Value) : ((w.setCell ⟨b, 0, none⟩ x).setCell ⟨b, 1, none⟩ y).cell? ⟨b, 0, none⟩ = some x ∧ ((w.setCell ⟨b, 0, none⟩ x).setCell ⟨b, 1, none⟩ y).cell? ⟨b, 1, none⟩ = some y ∧ (w.setCell ⟨b, 0, none⟩ x).cell? ⟨b, 1, none⟩ = some (.int .i64 0) ∧ (w.setCell ⟨b, 0, none⟩ x).frozen? ⟨b, 1, none⟩ = false := by
  unfold Res at h
  simp [World.cell?, World.frozen?, World.setCell, Array.getElem?_modify, h]
theorem bel_store {w w2 : World} (h : Below w.heap.size w w2) (x y : Value) : Below w.heap.size w ((w2.setCell ⟨w.heap.size + 1, 0, none⟩ x).setCell ⟨w.heap.size + 1, 1, none⟩ y) :=
  (h.setCell (p := ⟨w.heap.size + 1, 0, none⟩) (Nat.le_succ _) _).setCell (p := ⟨w.heap.size + 1, 1, none⟩) (Nat.le_succ _) _
set_option maxRecDepth 100000 in
set_option maxHeartbeats 1000000 in
theorem of_0 (n : Int) (s : ByteArray) (w : World) : Calls Tryd.prog 28 #[V 0 n s] w fun e w' => e = keyRet ⟨#[117, 110, 100, 101, 102, 105, 110, 101, 100]⟩ 0 true ∧ Below w.heap.size w w' := by
  have h1 := sym_0
  have h2 := txt_0
  have h3 := inv_0
  go_enter Tryd.func28, Tryd.ntmps28
  go_wp2_with (go_at_call 37; refine (kindOf_0 n s _).mono ?_)
  rintro e w1 ⟨rfl, hb⟩
  have hR := res_new hb
  have hbel1 := (two_bel w _ _).trans (hb.mono (by simp; omega))
  have hb1 := Lib.hid hb
  clear hb
  go_wp2_with (go_at_call 112; refine (m_undefined _).mono ?_)
  rintro e w2 ⟨rfl, hb2⟩
  have hR2 := hR.keep hb2
  have hbel := hbel1.trans (hb2.mono hbel1.size)
  obtain ⟨c0, c1, f0, f1⟩ := hR2.facts
  obtain ⟨s0, s1, s2, s3⟩ := hR2.store (.string (⟨#[117, 110, 100, 101, 102, 105, 110, 101, 100]⟩)) (.int .i64 (0))
  go_wp2
  (try simp only [Exit.inBlock, Exit.then])
  exact bodyPost_ret (v := .tuple #[K (⟨#[117, 110, 100, 101, 102, 105, 110, 101, 100]⟩) (0), .bool true]) (by simp [results, Tryd.results28, s0, s1, go_sem]) rfl ⟨rfl, bel_store hbel _ _⟩
set_option maxRecDepth 100000 in
set_option maxHeartbeats 1000000 in
theorem of_1 (n : Int) (s : ByteArray) (w : World) : Calls Tryd.prog 28 #[V 1 n s] w fun e w' => e = keyRet ⟨#[110, 117, 108, 108]⟩ 0 true ∧ Below w.heap.size w w' := by
  have h1 := sym_1
  have h2 := txt_1
  have h3 := inv_1
  go_enter Tryd.func28, Tryd.ntmps28
  go_wp2_with (go_at_call 37; refine (kindOf_1 n s _).mono ?_)
  rintro e w1 ⟨rfl, hb⟩
  have hR := res_new hb
  have hbel1 := (two_bel w _ _).trans (hb.mono (by simp; omega))
  have hb1 := Lib.hid hb
  clear hb
  go_wp2_with (go_at_call 113; refine (m_null _).mono ?_)
  rintro e w2 ⟨rfl, hb2⟩
  have hR2 := hR.keep hb2
  have hbel := hbel1.trans (hb2.mono hbel1.size)
  obtain ⟨c0, c1, f0, f1⟩ := hR2.facts
  obtain ⟨s0, s1, s2, s3⟩ := hR2.store (.string (⟨#[110, 117, 108, 108]⟩)) (.int .i64 (0))
  go_wp2
  (try simp only [Exit.inBlock, Exit.then])
  exact bodyPost_ret (v := .tuple #[K (⟨#[110, 117, 108, 108]⟩) (0), .bool true]) (by simp [results, Tryd.results28, s0, s1, go_sem]) rfl ⟨rfl, bel_store hbel _ _⟩
set_option maxRecDepth 100000 in
set_option maxHeartbeats 1000000 in
theorem of_2t (n : Int) (s : ByteArray) (w : World) (hn : (n != 0) = true) : Calls Tryd.prog 28 #[V 2 n s] w fun e w' => e = keyRet ⟨#[116, 114, 117, 101]⟩ 0 true ∧ Below w.heap.size w w' := by
  have h1 := sym_2
  have h2 := txt_2
  have h3 := inv_2
  go_enter Tryd.func28, Tryd.ntmps28
  go_wp2_with (go_at_call 37; refine (kindOf_2 n s _).mono ?_)
  rintro e w1 ⟨rfl, hb⟩
  have hR := res_new hb
  have hbel1 := (two_bel w _ _).trans (hb.mono (by simp; omega))
  have hb1 := Lib.hid hb
  clear hb
  go_wp2_with (go_at_call 114; refine (m_boolean_t _).mono ?_)
  rintro e w2 ⟨rfl, hb2⟩
  have hR2 := hR.keep hb2
  have hbel := hbel1.trans (hb2.mono hbel1.size)
  obtain ⟨c0, c1, f0, f1⟩ := hR2.facts
  obtain ⟨s0, s1, s2, s3⟩ := hR2.store (.string (⟨#[116, 114, 117, 101]⟩)) (.int .i64 (0))
  go_wp2
  (try simp only [Exit.inBlock, Exit.then])
  exact bodyPost_ret (v := .tuple #[K (⟨#[116, 114, 117, 101]⟩) (0), .bool true]) (by simp [results, Tryd.results28, s0, s1, go_sem]) rfl ⟨rfl, bel_store hbel _ _⟩
set_option maxRecDepth 100000 in
set_option maxHeartbeats 1000000 in
theorem of_2f (n : Int) (s : ByteArray) (w : World) (hn : (n != 0) = false) : Calls Tryd.prog 28 #[V 2 n s] w fun e w' => e = keyRet ⟨#[102, 97, 108, 115, 101]⟩ 0 true ∧ Below w.heap.size w w' := by
  have h1 := sym_2
  have h2 := txt_2
  have h3 := inv_2
  go_enter Tryd.func28, Tryd.ntmps28
  go_wp2_with (go_at_call 37; refine (kindOf_2 n s _).mono ?_)
  rintro e w1 ⟨rfl, hb⟩
  have hR := res_new hb
  have hbel1 := (two_bel w _ _).trans (hb.mono (by simp; omega))
  have hb1 := Lib.hid hb
  clear hb
  go_wp2_with (go_at_call 114; refine (m_boolean_f _).mono ?_)
  rintro e w2 ⟨rfl, hb2⟩
  have hR2 := hR.keep hb2
  have hbel := hbel1.trans (hb2.mono hbel1.size)
  obtain ⟨c0, c1, f0, f1⟩ := hR2.facts
  obtain ⟨s0, s1, s2, s3⟩ := hR2.store (.string (⟨#[102, 97, 108, 115, 101]⟩)) (.int .i64 (0))
  go_wp2
  (try simp only [Exit.inBlock, Exit.then])
  exact bodyPost_ret (v := .tuple #[K (⟨#[102, 97, 108, 115, 101]⟩) (0), .bool true]) (by simp [results, Tryd.results28, s0, s1, go_sem]) rfl ⟨rfl, bel_store hbel _ _⟩
set_option maxRecDepth 100000 in
set_option maxHeartbeats 1000000 in
theorem of_3 (n : Int) (h0 : -9223372036854775808 ≤ n) (h9 : n ≤ 9223372036854775807) (s t : ByteArray) (ht : t = ⟨(Lib.itoa n).toArray⟩) (w : World) (hL : Lw w) : Calls Tryd.prog 28 #[V 3 n s] w fun e w' => e = keyRet t 0 true ∧ Below w.heap.size w w' := by
  have hm := fun w hL => m_number n h0 h9 w hL
  rw [← ht] at hm
  have HM := Lib.hid hm
  clear ht hm
  have h1 := sym_3
  have h2 := txt_3
  have h3 := inv_3
  go_enter Tryd.func28, Tryd.ntmps28
  go_wp2_with (go_at_call 37; refine (kindOf_3 n s _).mono ?_)
  rintro e w1 ⟨rfl, hb⟩
  have hR := res_new hb
  have hbel1 := (two_bel w _ _).trans (hb.mono (by simp; omega))
  have hb1 := Lib.hid hb
  clear hb
  go_wp2_with (go_at_call 115; refine (HM.out _ (hL.below hbel1)).mono ?_)
  rintro e w2 ⟨rfl, hb2⟩
  have hR2 := hR.keep hb2
  have hbel := hbel1.trans (hb2.mono hbel1.size)
  obtain ⟨c0, c1, f0, f1⟩ := hR2.facts
  obtain ⟨s0, s1, s2, s3⟩ := hR2.store (.string (t)) (.int .i64 (0))
  go_wp2
  (try simp only [Exit.inBlock, Exit.then])
  exact bodyPost_ret (v := .tuple #[K (t) (0), .bool true]) (by simp [results, Tryd.results28, s0, s1, go_sem]) rfl ⟨rfl, bel_store hbel _ _⟩
set_option maxRecDepth 100000 in
set_option maxHeartbeats 1000000 in
theorem of_4 (n : Int) (s : ByteArray) (w : World) : Calls Tryd.prog 28 #[V 4 n s] w fun e w' => e = keyRet s 0 true ∧ Below w.heap.size w w' := by
  have h1 := sym_4
  have h2 := txt_4
  have h3 := inv_4
  go_enter Tryd.func28, Tryd.ntmps28
  go_wp2_with (go_at_call 37; refine (kindOf_4 n s _).mono ?_)
  rintro e w1 ⟨rfl, hb⟩
  have hR := res_new hb
  have hbel1 := (two_bel w _ _).trans (hb.mono (by simp; omega))
  have hb1 := Lib.hid hb
  clear hb
  go_wp2_with (go_at_call 116; refine (m_str s _).mono ?_)
  rintro e w2 ⟨rfl, hb2⟩
  have hR2 := hR.keep hb2
  have hbel := hbel1.trans (hb2.mono hbel1.size)
  obtain ⟨c0, c1, f0, f1⟩ := hR2.facts
  obtain ⟨s0, s1, s2, s3⟩ := hR2.store (.string (s)) (.int .i64 (0))
  go_wp2
  (try simp only [Exit.inBlock, Exit.then])
  exact bodyPost_ret (v := .tuple #[K (s) (0), .bool true]) (by simp [results, Tryd.results28, s0, s1, go_sem]) rfl ⟨rfl, bel_store hbel _ _⟩
set_option maxRecDepth 100000 in
set_option maxHeartbeats 1000000 in
theorem of_5 (n : Int) (s : ByteArray) (w : World) : Calls Tryd.prog 28 #[V 5 n s] w fun e w' => e = keyRet ⟨#[]⟩ n true ∧ Below w.heap.size w w' := by
  have h1 := sym_5
  go_enter Tryd.func28, Tryd.ntmps28
  go_wp2_with (go_at_call 37; refine (kindOf_5 n s _).mono ?_)
  rintro e w1 ⟨rfl, hb⟩
  have hR := res_new hb
  have hbel1 := (two_bel w _ _).trans (hb.mono (by simp; omega))
  have hb1 := Lib.hid hb
  clear hb
  have hR2 := hR
  have hbel := hbel1
  obtain ⟨c0, c1, f0, f1⟩ := hR2.facts
  obtain ⟨s0, s1, s2, s3⟩ := hR2.store (.string (⟨#[]⟩)) (.int .i64 (n))
  go_wp2
  (try simp only [Exit.inBlock, Exit.then])
  exact bodyPost_ret (v := .tuple #[K (⟨#[]⟩) (n), .bool true]) (by simp [results, Tryd.results28, s0, s1, go_sem]) rfl ⟨rfl, bel_store hbel _ _⟩
set_option maxRecDepth 100000 in
set_option maxHeartbeats 1000000 in
theorem of_6 (n : Int) (s : ByteArray) (w : World) : Calls Tryd.prog 28 #[V 6 n s] w fun e w' => e = keyRet ⟨#[]⟩ 0 false ∧ Below w.heap.size w w' := by
  have h1 := sym_6
  have h2 := txt_6
  go_enter Tryd.func28, Tryd.ntmps28
  go_wp2_with (go_at_call 37; refine (kindOf_6 n s _).mono ?_)
  rintro e w1 ⟨rfl, hb⟩
  have hR := res_new hb
  have hbel1 := (two_bel w _ _).trans (hb.mono (by simp; omega))
  have hb1 := Lib.hid hb
  clear hb
  have hR2 := hR
  have hbel := hbel1
  obtain ⟨c0, c1, f0, f1⟩ := hR2.facts
  obtain ⟨s0, s1, s2, s3⟩ := hR2.store (.string (⟨#[]⟩)) (.int .i64 (0))
  go_wp2
  (try simp only [Exit.inBlock, Exit.then])
  exact bodyPost_ret (v := .tuple #[K (⟨#[]⟩) (0), .bool false]) (by simp [results, Tryd.results28, s0, s1, go_sem]) rfl ⟨rfl, bel_store hbel _ _⟩
set_option maxRecDepth 100000 in
set_option maxHeartbeats 1000000 in
theorem of_k (k n : Int) (s : ByteArray) (hk : NoKind k) (w : World) : Calls Tryd.prog 28 #[V k n s] w fun e w' => e = keyRet ⟨#[]⟩ 0 false ∧ Below w.heap.size w w' := by
  have h1 := sym_n
  have h2 := txt_n
  go_enter Tryd.func28, Tryd.ntmps28
  go_wp2_with (go_at_call 37; refine (kindOf_k k n s hk _).mono ?_)
  rintro e w1 ⟨rfl, hb⟩
  have hR := res_new hb
  have hbel1 := (two_bel w _ _).trans (hb.mono (by simp; omega))
  have hb1 := Lib.hid hb
  clear hb
  have hR2 := hR
  have hbel := hbel1
  obtain ⟨c0, c1, f0, f1⟩ := hR2.facts
  obtain ⟨s0, s1, s2, s3⟩ := hR2.store (.string (⟨#[]⟩)) (.int .i64 (0))
  go_wp2
  (try simp only [Exit.inBlock, Exit.then])
  exact bodyPost_ret (v := .tuple #[K (⟨#[]⟩) (0), .bool false]) (by simp [results, Tryd.results28, s0, s1, go_sem]) rfl ⟨rfl, bel_store hbel _ _⟩
end Go.Proofs.YtadpkhneijoilaaDoor.Vals
