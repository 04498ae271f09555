/-
  Texts of this seat in build order: MwObj, ReCalls, ReBeg.
-/
import Derived.Test.YtblbeinnfbohbaaMz16
import Derived.BigQuiet
import Derived.Test.YtblbeinnfbohbaaMz12
import Derived.Deep.RegionWith
/-
  object; what an object is as a method sees it.
-/
namespace Go.Proofs.Ytblbeinnfbohbaa.Mw
open Go Go.RowKit Go.Maps Go.Shelf Go.Proofs.Ytblbeinnfbohbaa.Keys Go.Proofs.Ytblbeinnfbohbaa.Hp Go.Proofs.Ytblbeinnfbohbaa.Mo
open Go.Proofs.Ytblbeinnfbohbaa.Des (Vl Ds zeroV zeroD dcs dcs_size dcs_one accF rigF appF eqV)
open Go.Proofs.Ytblbeinnfbohbaa.Arrs (En ecs)
set_option linter.unusedVariables false
set_option linter.unusedSimpArgs false
attribute [local go_sem ↓] ldR stR alR bxR bdR ldV stV alV bxV bdV ldA stA bxA bdA ldKy bxKy bdKy

attribute [local irreducible] rcs dcs ecs vcs acs kcs xcs tcs

attribute [local go_sem] run_bx run_alR run_stRg run_bdA0 run_bdAk run_bdAkr run_bdAkvr run_bdAr run_bdAkd run_bdRz run_bdRd run_bdRk run_bdRf run_bdRo run_bdRs run_bdRt' run_bdKs

section

variable {X : Cx} {c : Nat} {M M' M'' : Wm} {w w' w'' : World} {A A' A'' : Aw} {D : DoT}

theorem o_calls_any (b : Nat) (w : World) : Calls Try.prog 68 #[ptr b] w fun e w' => e = .returned (.bool false) ∧ w' = w := by
  go_enter Try.func68, Try.ntmps68
  go_wp2
  go_ret
  exact ⟨rfl, rfl⟩
theorem bound_calls_any {b : Nat} {o : Int} {t : Th} {T : TypeId} {w : World} (h : Blk w b (xcs o t) T) : Calls Try.prog 73 #[ptr b] w fun e w' => e = .returned (.bool t.calls) ∧ w' = w := by
  have hc := x_calls h
  clear h
  go_enter Try.func73, Try.ntmps73
  go_wp2
  go_ret
  exact ⟨rfl, rfl⟩
theorem proxy_calls_any {b : Nat} {o : Int} {t : Th} {T : TypeId} {w : World} (h : Blk w b (xcs o t) T) : Calls Try.prog 75 #[ptr b] w fun e w' => e = .returned (.bool t.calls) ∧ w' = w := by
  have hc := x_calls h
  clear h
  go_enter Try.func75, Try.ntmps75
  go_wp2
  go_ret
  exact ⟨rfl, rfl⟩
theorem o_makes_any (b : Nat) (w : World) : Calls Try.prog 69 #[ptr b] w fun e w' => e = .returned (.bool false) ∧ w' = w := by
  go_enter Try.func69, Try.ntmps69
  go_wp2
  go_ret
  exact ⟨rfl, rfl⟩
theorem bound_makes_any {b : Nat} {o : Int} {t : Th} {T : TypeId} {w : World} (h : Blk w b (xcs o t) T) : Calls Try.prog 74 #[ptr b] w fun e w' => e = .returned (.bool t.makes) ∧ w' = w := by
  have hc := x_makes h
  clear h
  go_enter Try.func74, Try.ntmps74
  go_wp2
  go_ret
  exact ⟨rfl, rfl⟩
theorem proxy_makes_any {b : Nat} {o : Int} {t : Th} {T : TypeId} {w : World} (h : Blk w b (xcs o t) T) : Calls Try.prog 76 #[ptr b] w fun e w' => e = .returned (.bool t.makes) ∧ w' = w := by
  have hc := x_makes h
  clear h
  go_enter Try.func76, Try.ntmps76
  go_wp2
  go_ret
  exact ⟨rfl, rfl⟩
theorem f_calls_any (b : Nat) (w : World) : Calls Try.prog 71 #[ptr b] w fun e w' => e = .returned (.bool true) ∧ w' = w := by
  go_enter Try.func71, Try.ntmps71
  go_wp2
  go_ret
  exact ⟨rfl, rfl⟩
theorem f_makes_any {b : Nat} {o : Int} {t : Th} {T : TypeId} {w : World} (h : Blk w b (xcs o t) T) : Calls Try.prog 72 #[ptr b] w fun e w' => e = .returned (.bool (t.code == 1 || t.code == 30)) ∧ w' = w := by
  have hc := x_code h
  clear h
  by_cases h1 : t.code = 1
  · have d1 : (t.code == 1) = true := by simp [h1]
    rw [d1]
    have H1 := Lib.hid h1
    clear h1
    go_enter Try.func72, Try.ntmps72
    go_wp2
    go_ret
    exact ⟨rfl, rfl⟩
  · have d1 : (t.code == 1) = false := by simp [h1]
    rw [d1]
    have H1 := Lib.hid h1
    clear h1
    go_enter Try.func72, Try.ntmps72
    go_wp2
    go_ret
    exact ⟨by simp, rfl⟩
/-- What object gives: an object as a method sees it, in a new block. -/
def ObjP (w : World) (o : Int) (t : Th) (e : Ending) (w' : World) : Prop := ∃ b, e = .returned (.iface (ifT t.kind) (ptr b)) ∧ w.heap.size ≤ b ∧ Blk w' b (xcs o t) (blT t.kind) ∧ Below w.heap.size w w'
section

attribute [local go_sem ↓] ldT stT alT ld_ordinary st_ordinary al_ordinary bx_ordinary bd_ordinary ld_array st_array al_array bx_array bd_array ld_function st_function al_function bx_function bd_function ld_bound st_bound al_bound bx_bound bd_bound ld_proxy st_proxy al_proxy bx_proxy bd_proxy

attribute [local go_sem] run_alT run_alX

theorem object_no (h : WIs X c M w A) {o : Int} (hx : at? A o = none) : Calls Try.prog 33 #[ptr X.wb, .int .i64 o] w fun e w' => e = .returned .nilIface ∧ Below w.heap.size w w' := by
  have hst := stW h
  have hh := wHead_none h hx
  have HZ : Hid (∀ w2, (St 85 (.pointer (some ⟨w2.heap.size, 0, none⟩)) (.agg (tcs zeroT))).run Try.prog (World.alloc w2 (.cells (tcs zeroT) 85)) = .ok () (w2.alloc (.cells (tcs zeroT) 85))) := Lib.hid fun w2 => run_stT w2 zeroT zeroT zeroT_ok
  clear h hx
  go_enter Try.func33, Try.ntmps33
  go_wp2_with (first | (go_at_call 40; (with_reducible refine hst.mono ?_); rintro e w5 ⟨rfl, rfl⟩) | (go_at_call 41; (with_reducible refine hh.mono ?_); rintro e w2 ⟨rfl, hb⟩; have sz := HZ.out w2; have HB := Lib.hid hb; clear hb))
  go_ret
  exact ⟨rfl, HB.out.alloc HB.out.size _⟩
set_option maxRecDepth 100000 in
set_option maxHeartbeats 4000000 in
theorem object_array (h : WIs X c M w A) {o : Int} {x : Ob} (hx : at? A o = some x) (hk : x.th.kind = 1) : Calls Try.prog 33 #[ptr X.wb, .int .i64 o] w (ObjP w o x.th) := by
  have hst := stW h
  have hh := wHead_some h hx
  obtain ⟨f1, f2, -⟩ := h.fit hx
  have tok : x.th.ok := ⟨⟨_, _, _, f1⟩, ⟨_, _, _, f2⟩⟩
  have HEND : Hid (∀ b e w', e = .returned (.iface 111 (ptr b)) → w.heap.size ≤ b → Blk w' b (xcs o x.th) 113 → Below w.heap.size w w' → ObjP w o x.th e w') := Lib.hid fun b e w' h1 h2 h3 h4 => ⟨b, by rw [h1]; simp [ifT, hk], h2, by simpa [blT, hk] using h3, h4⟩
  have d1 : (x.th.kind == 1) = true := by simp [hk]
  obtain ⟨th, hth⟩ : ∃ th, th = x.th := ⟨_, rfl⟩
  rw [← hth] at hh f1 f2 tok HEND d1 ⊢
  have HZ := Lib.hid (obj_facts o th f1 f2)
  have bd1 : ∀ w2, (Bd 110 #[(0, .int .i64 o), (1, .agg (tcs th))]).run Try.prog w2 = .ok (.agg (xcs o th)) w2 := fun w2 => run_bdX w2 o th f1 f2
  have bd2 : ∀ w2, (Bd 113 #[(0, .agg (xcs o th))]).run Try.prog w2 = .ok (.agg (xcs o th)) w2 := fun w2 => run_bd_array w2 o th f1 f2
  clear h hx hk f1 f2 tok hth
  go_enter Try.func33, Try.ntmps33
  go_wp2_with (first | (go_at_call 40; (with_reducible refine hst.mono ?_); rintro e w5 ⟨rfl, rfl⟩) | (go_at_call 41; (with_reducible refine hh.mono ?_); rintro e w2 ⟨rfl, hb⟩; obtain ⟨sz, lt3, sx, k3, lx4⟩ := HZ.out w2; have HB := Lib.hid hb; clear hb))
  go_ret
  refine HEND.out (w2.heap.size + 1 + 1) _ _ rfl ?_ ?_ ?_
  · have := HB.out.size; omega
  · exact blk_newg (by simp)
  exact below_three HB.out _ _ _
set_option maxRecDepth 100000 in
set_option maxHeartbeats 4000000 in
theorem object_function (h : WIs X c M w A) {o : Int} {x : Ob} (hx : at? A o = some x) (hk : x.th.kind = 2) : Calls Try.prog 33 #[ptr X.wb, .int .i64 o] w (ObjP w o x.th) := by
  have hst := stW h
  have hh := wHead_some h hx
  obtain ⟨f1, f2, -⟩ := h.fit hx
  have tok : x.th.ok := ⟨⟨_, _, _, f1⟩, ⟨_, _, _, f2⟩⟩
  have HEND : Hid (∀ b e w', e = .returned (.iface 114 (ptr b)) → w.heap.size ≤ b → Blk w' b (xcs o x.th) 115 → Below w.heap.size w w' → ObjP w o x.th e w') := Lib.hid fun b e w' h1 h2 h3 h4 => ⟨b, by rw [h1]; simp [ifT, hk], h2, by simpa [blT, hk] using h3, h4⟩
  have d1 : (x.th.kind == 1) = false := by simp [hk]
  have d2 : (x.th.kind == 2) = true := by simp [hk]
  obtain ⟨th, hth⟩ : ∃ th, th = x.th := ⟨_, rfl⟩
  rw [← hth] at hh f1 f2 tok HEND d1 d2 ⊢
  have HZ := Lib.hid (obj_facts o th f1 f2)
  have bd1 : ∀ w2, (Bd 110 #[(0, .int .i64 o), (1, .agg (tcs th))]).run Try.prog w2 = .ok (.agg (xcs o th)) w2 := fun w2 => run_bdX w2 o th f1 f2
  have bd2 : ∀ w2, (Bd 115 #[(0, .agg (xcs o th))]).run Try.prog w2 = .ok (.agg (xcs o th)) w2 := fun w2 => run_bd_function w2 o th f1 f2
  clear h hx hk f1 f2 tok hth
  go_enter Try.func33, Try.ntmps33
  go_wp2_with (first | (go_at_call 40; (with_reducible refine hst.mono ?_); rintro e w5 ⟨rfl, rfl⟩) | (go_at_call 41; (with_reducible refine hh.mono ?_); rintro e w2 ⟨rfl, hb⟩; obtain ⟨sz, lt3, sx, k3, lx4⟩ := HZ.out w2; have HB := Lib.hid hb; clear hb))
  go_ret
  refine HEND.out (w2.heap.size + 1 + 1) _ _ rfl ?_ ?_ ?_
  · have := HB.out.size; omega
  · exact blk_newg (by simp)
  exact below_three HB.out _ _ _
set_option maxRecDepth 100000 in
set_option maxHeartbeats 4000000 in
theorem object_bound (h : WIs X c M w A) {o : Int} {x : Ob} (hx : at? A o = some x) (hk : x.th.kind = 3) : Calls Try.prog 33 #[ptr X.wb, .int .i64 o] w (ObjP w o x.th) := by
  have hst := stW h
  have hh := wHead_some h hx
  obtain ⟨f1, f2, -⟩ := h.fit hx
  have tok : x.th.ok := ⟨⟨_, _, _, f1⟩, ⟨_, _, _, f2⟩⟩
  have HEND : Hid (∀ b e w', e = .returned (.iface 116 (ptr b)) → w.heap.size ≤ b → Blk w' b (xcs o x.th) 117 → Below w.heap.size w w' → ObjP w o x.th e w') := Lib.hid fun b e w' h1 h2 h3 h4 => ⟨b, by rw [h1]; simp [ifT, hk], h2, by simpa [blT, hk] using h3, h4⟩
  have d1 : (x.th.kind == 1) = false := by simp [hk]
  have d2 : (x.th.kind == 2) = false := by simp [hk]
  have d3 : (x.th.kind == 3) = true := by simp [hk]
  obtain ⟨th, hth⟩ : ∃ th, th = x.th := ⟨_, rfl⟩
  rw [← hth] at hh f1 f2 tok HEND d1 d2 d3 ⊢
  have HZ := Lib.hid (obj_facts o th f1 f2)
  have bd1 : ∀ w2, (Bd 110 #[(0, .int .i64 o), (1, .agg (tcs th))]).run Try.prog w2 = .ok (.agg (xcs o th)) w2 := fun w2 => run_bdX w2 o th f1 f2
  have bd2 : ∀ w2, (Bd 117 #[(0, .agg (xcs o th))]).run Try.prog w2 = .ok (.agg (xcs o th)) w2 := fun w2 => run_bd_bound w2 o th f1 f2
  clear h hx hk f1 f2 tok hth
  go_enter Try.func33, Try.ntmps33
  go_wp2_with (first | (go_at_call 40; (with_reducible refine hst.mono ?_); rintro e w5 ⟨rfl, rfl⟩) | (go_at_call 41; (with_reducible refine hh.mono ?_); rintro e w2 ⟨rfl, hb⟩; obtain ⟨sz, lt3, sx, k3, lx4⟩ := HZ.out w2; have HB := Lib.hid hb; clear hb))
  go_ret
  refine HEND.out (w2.heap.size + 1 + 1) _ _ rfl ?_ ?_ ?_
  · have := HB.out.size; omega
  · exact blk_newg (by simp)
  exact below_three HB.out _ _ _
set_option maxRecDepth 100000 in
set_option maxHeartbeats 4000000 in
theorem object_proxy (h : WIs X c M w A) {o : Int} {x : Ob} (hx : at? A o = some x) (hk : x.th.kind = 4) : Calls Try.prog 33 #[ptr X.wb, .int .i64 o] w (ObjP w o x.th) := by
  have hst := stW h
  have hh := wHead_some h hx
  obtain ⟨f1, f2, -⟩ := h.fit hx
  have tok : x.th.ok := ⟨⟨_, _, _, f1⟩, ⟨_, _, _, f2⟩⟩
  have HEND : Hid (∀ b e w', e = .returned (.iface 118 (ptr b)) → w.heap.size ≤ b → Blk w' b (xcs o x.th) 119 → Below w.heap.size w w' → ObjP w o x.th e w') := Lib.hid fun b e w' h1 h2 h3 h4 => ⟨b, by rw [h1]; simp [ifT, hk], h2, by simpa [blT, hk] using h3, h4⟩
  have d1 : (x.th.kind == 1) = false := by simp [hk]
  have d2 : (x.th.kind == 2) = false := by simp [hk]
  have d3 : (x.th.kind == 3) = false := by simp [hk]
  have d4 : (x.th.kind == 4) = true := by simp [hk]
  obtain ⟨th, hth⟩ : ∃ th, th = x.th := ⟨_, rfl⟩
  rw [← hth] at hh f1 f2 tok HEND d1 d2 d3 d4 ⊢
  have HZ := Lib.hid (obj_facts o th f1 f2)
  have bd1 : ∀ w2, (Bd 110 #[(0, .int .i64 o), (1, .agg (tcs th))]).run Try.prog w2 = .ok (.agg (xcs o th)) w2 := fun w2 => run_bdX w2 o th f1 f2
  have bd2 : ∀ w2, (Bd 119 #[(0, .agg (xcs o th))]).run Try.prog w2 = .ok (.agg (xcs o th)) w2 := fun w2 => run_bd_proxy w2 o th f1 f2
  clear h hx hk f1 f2 tok hth
  go_enter Try.func33, Try.ntmps33
  go_wp2_with (first | (go_at_call 40; (with_reducible refine hst.mono ?_); rintro e w5 ⟨rfl, rfl⟩) | (go_at_call 41; (with_reducible refine hh.mono ?_); rintro e w2 ⟨rfl, hb⟩; obtain ⟨sz, lt3, sx, k3, lx4⟩ := HZ.out w2; have HB := Lib.hid hb; clear hb))
  go_ret
  refine HEND.out (w2.heap.size + 1 + 1) _ _ rfl ?_ ?_ ?_
  · have := HB.out.size; omega
  · exact blk_newg (by simp)
  exact below_three HB.out _ _ _
set_option maxRecDepth 100000 in
set_option maxHeartbeats 4000000 in
theorem object_ordinary (h : WIs X c M w A) {o : Int} {x : Ob} (hx : at? A o = some x) (hk : x.th.kind ≠ 1 ∧ x.th.kind ≠ 2 ∧ x.th.kind ≠ 3 ∧ x.th.kind ≠ 4) : Calls Try.prog 33 #[ptr X.wb, .int .i64 o] w (ObjP w o x.th) := by
  have hst := stW h
  have hh := wHead_some h hx
  obtain ⟨f1, f2, -⟩ := h.fit hx
  have tok : x.th.ok := ⟨⟨_, _, _, f1⟩, ⟨_, _, _, f2⟩⟩
  have HEND : Hid (∀ b e w', e = .returned (.iface 120 (ptr b)) → w.heap.size ≤ b → Blk w' b (xcs o x.th) 110 → Below w.heap.size w w' → ObjP w o x.th e w') := Lib.hid fun b e w' h1 h2 h3 h4 => ⟨b, by rw [h1]; simp [ifT, hk], h2, by simpa [blT, hk] using h3, h4⟩
  have d1 : (x.th.kind == 1) = false := by simp; omega
  have d2 : (x.th.kind == 2) = false := by simp; omega
  have d3 : (x.th.kind == 3) = false := by simp; omega
  have d4 : (x.th.kind == 4) = false := by simp; omega
  obtain ⟨th, hth⟩ : ∃ th, th = x.th := ⟨_, rfl⟩
  rw [← hth] at hh f1 f2 tok HEND d1 d2 d3 d4 ⊢
  have HZ := Lib.hid (obj_facts o th f1 f2)
  have bd1 : ∀ w2, (Bd 110 #[(0, .int .i64 o), (1, .agg (tcs th))]).run Try.prog w2 = .ok (.agg (xcs o th)) w2 := fun w2 => run_bdX w2 o th f1 f2
  clear h hx hk f1 f2 tok hth
  go_enter Try.func33, Try.ntmps33
  go_wp2_with (first | (go_at_call 40; (with_reducible refine hst.mono ?_); rintro e w5 ⟨rfl, rfl⟩) | (go_at_call 41; (with_reducible refine hh.mono ?_); rintro e w2 ⟨rfl, hb⟩; obtain ⟨sz, lt3, sx, k3, lx4⟩ := HZ.out w2; have HB := Lib.hid hb; clear hb))
  go_ret
  refine HEND.out (w2.heap.size + 1) _ _ rfl ?_ ?_ ?_
  · have := HB.out.size; omega
  · exact blk_newg (by simp)
  exact below_two HB.out _ _
end

theorem object_any (h : WIs X c M w A) {o : Int} {x : Ob} (hx : at? A o = some x) : Calls Try.prog 33 #[ptr X.wb, .int .i64 o] w (ObjP w o x.th) := by
  by_cases h1 : x.th.kind = 1
  · exact object_array h hx h1
  · by_cases h2 : x.th.kind = 2
    · exact object_function h hx h2
    · by_cases h3 : x.th.kind = 3
      · exact object_bound h hx h3
      · by_cases h4 : x.th.kind = 4
        · exact object_proxy h hx h4
        · exact object_ordinary h hx ⟨h1, h2, h3, h4⟩
end

end Go.Proofs.Ytblbeinnfbohbaa.Mw

/-
  Calls, Makes.
-/
namespace Go.Proofs.Ytblbeinnfbohbaa.Re
open Go Go.RowKit Go.Maps Go.Shelf Go.Proofs.Ytblbeinnfbohbaa.Keys Go.Proofs.Ytblbeinnfbohbaa.Hp Go.Proofs.Ytblbeinnfbohbaa.Mo Go.Proofs.Ytblbeinnfbohbaa.Mw
open Go.Proofs.Ytblbeinnfbohbaa.Des (Vl Ds zeroV zeroD dcs dcs_size dcs_one accF rigF appF eqV)
open Go.Proofs.Ytblbeinnfbohbaa.Arrs (En ecs)
set_option linter.unusedVariables false
set_option linter.unusedSimpArgs false

theorem ne_nilE (d : Nat) (T : TypeId) (b : Nat) (w : World) : (Op.equalIn (d + 1) 71 (.iface T (ptr b)) .nilIface).run Try.prog w = .ok false w := by
  simp [Op.equalIn, run_underlying Try.underlying71]
theorem ne_nilO (T : TypeId) (b : Nat) (w : World) : (binOp .neq 71 (.iface T (ptr b)) .nilIface).run Try.prog w = .ok (.bool true) w := by
  simp only [binOp]
  simp [Op.equal, Op.maxDepth, ne_nilE 9999]
theorem v_kind {w : World} {b : Nat} {v : Vl} {T : TypeId} (h : Blk w b (vcs v) T) : w.cell? ⟨b, 0, none⟩ = some (.int .i64 v.k) := h.cell 0
theorem v_num2 {w : World} {b : Nat} {v : Vl} {T : TypeId} (h : Blk w b (vcs v) T) : w.cell? ⟨b, 1, none⟩ = some (.int .i64 v.n) := h.cell 1
theorem ifT_2 {k : Int} (h : k = 2) : ifT k = 114 := by subst h; rfl
theorem ifT_0 {k : Int} (h : k = 0) : ifT k = 120 := by subst h; rfl
attribute [local go_sem ↓] ldR stR alR bxR bdR ldV stV alV bxV bdV ldKy bxKy bdKy bdT alT stT bxT ldT bdD alD stD
attribute [local irreducible] rcs dcs ecs vcs acs kcs xcs tcs
attribute [local go_sem ↓] bxD
attribute [local go_sem] run_bx run_alV run_stVg run_alT run_bdTp run_bdTf run_bdDh run_bdO6 run_bdN1 run_alD run_stDg run_bdKs
section
variable {X : Cx} {c : Nat} {w w' w'' : World} {M : Wm} {A : Aw} {x : Ob}
theorem objectOf_v (h : WIs X c M w A) (o : Int) (hx : at? A o = some x) : Calls Try.prog 23 #[ptr X.wb, .agg (vcs (objV o))] w (ObjP w o x.th) := by
  have hb : Below w.heap.size w (w.alloc (.cells (vcs (objV o)) 32)) := (Below.refl _ w).alloc (Nat.le_refl _) _
  have k0 : (w.alloc (.cells (vcs (objV o)) 32)).cell? ⟨w.heap.size, 0, none⟩ = some (.int .i64 6) := v_kind (Blk.new _ _ _)
  have k1 : (w.alloc (.cells (vcs (objV o)) 32)).cell? ⟨w.heap.size, 1, none⟩ = some (.int .i64 o) := v_num2 (Blk.new _ _ _)
  have hob := object_any (h.old (.cells (vcs (objV o)) 32)) hx
  have HB := Lib.hid hb
  clear h hx hb
  go_enter Try.func23, Try.ntmps23
  go_wp2_with (go_at_call 33; (with_reducible refine hob.mono ?_); rintro e w2 ⟨b, rfl, hb1, hb2, hb3⟩; have HX := Lib.hid (show ObjP w o x.th (.returned (.iface (ifT x.th.kind) (ptr b))) w2 from ⟨b, rfl, by have := HB.out.size; omega, hb2, HB.out.trans (hb3.mono HB.out.size)⟩); clear hb1 hb2 hb3)
  go_ret
  exact HX.out
set_option maxRecDepth 100000 in
set_option maxHeartbeats 4000000 in
theorem calls_f (h : WIs X c M w A) (o : Int) (hx : at? A o = some x) (hk : x.th.kind = 2) : Calls Try.prog 9 #[ptr X.wb, .agg (vcs (objV o))] w fun e w' => e = .returned (.bool true) ∧ Below w.heap.size w w' := by
  have hb : Below w.heap.size w (w.alloc (.cells (vcs (objV o)) 32)) := (Below.refl _ w).alloc (Nat.le_refl _) _
  have l1 := run_ldVp (Blk.new w (vcs (objV o)) 32)
  have hob := objectOf_v (h.old (.cells (vcs (objV o)) 32)) o hx
  unfold ObjP at hob
  rw [ifT_2 hk] at hob
  have HB := Lib.hid hb
  have me := me_function_calls
  have ne := ne_nilO 114
  clear h hx hb
  go_enter Try.func9, Try.ntmps9
  go_wp2_with (first
    | (go_at_call 23; (with_reducible refine hob.mono ?_); rintro e w2 ⟨b, rfl, hb1, hb2, hb3⟩; have HX := Lib.hid (HB.out.trans (hb3.mono HB.out.size)); have hc := f_calls_any b w2; clear hb1 hb2 hb3)
    | (go_at_call 71; (with_reducible refine hc.mono ?_); rintro e w3 ⟨rfl, rfl⟩))
  go_ret
  exact ⟨rfl, HX.out⟩
set_option maxRecDepth 100000 in
set_option maxHeartbeats 4000000 in
theorem calls_o (h : WIs X c M w A) (o : Int) (hx : at? A o = some x) (hk : x.th.kind = 0) : Calls Try.prog 9 #[ptr X.wb, .agg (vcs (objV o))] w fun e w' => e = .returned (.bool false) ∧ Below w.heap.size w w' := by
  have hb : Below w.heap.size w (w.alloc (.cells (vcs (objV o)) 32)) := (Below.refl _ w).alloc (Nat.le_refl _) _
  have l1 := run_ldVp (Blk.new w (vcs (objV o)) 32)
  have hob := objectOf_v (h.old (.cells (vcs (objV o)) 32)) o hx
  unfold ObjP at hob
  rw [ifT_0 hk] at hob
  have HB := Lib.hid hb
  have me := me_ordinary_calls
  have ne := ne_nilO 120
  clear h hx hb
  go_enter Try.func9, Try.ntmps9
  go_wp2_with (first
    | (go_at_call 23; (with_reducible refine hob.mono ?_); rintro e w2 ⟨b, rfl, hb1, hb2, hb3⟩; have HX := Lib.hid (HB.out.trans (hb3.mono HB.out.size)); have hc := o_calls_any b w2; clear hb1 hb2 hb3)
    | (go_at_call 68; (with_reducible refine hc.mono ?_); rintro e w3 ⟨rfl, rfl⟩))
  go_ret
  exact ⟨rfl, HX.out⟩
set_option maxRecDepth 100000 in
set_option maxHeartbeats 4000000 in
theorem makes_f (h : WIs X c M w A) (o : Int) (hx : at? A o = some x) (hk : x.th.kind = 2) : Calls Try.prog 10 #[ptr X.wb, .agg (vcs (objV o))] w fun e w' => e = .returned (.bool (x.th.code == 1 || x.th.code == 30)) ∧ Below w.heap.size w w' := by
  have hb : Below w.heap.size w (w.alloc (.cells (vcs (objV o)) 32)) := (Below.refl _ w).alloc (Nat.le_refl _) _
  have l1 := run_ldVp (Blk.new w (vcs (objV o)) 32)
  have hob := objectOf_v (h.old (.cells (vcs (objV o)) 32)) o hx
  unfold ObjP at hob
  rw [ifT_2 hk] at hob
  have HB := Lib.hid hb
  have me := me_function_makes
  have ne := ne_nilO 114
  clear h hx hb
  go_enter Try.func10, Try.ntmps10
  go_wp2_with (first
    | (go_at_call 23; (with_reducible refine hob.mono ?_); rintro e w2 ⟨b, rfl, hb1, hb2, hb3⟩; have HX := Lib.hid (HB.out.trans (hb3.mono HB.out.size)); have hc := f_makes_any hb2; clear hb1 hb2 hb3)
    | (go_at_call 72; (with_reducible refine hc.mono ?_); rintro e w3 ⟨rfl, rfl⟩))
  go_ret
  exact ⟨rfl, HX.out⟩
set_option maxRecDepth 100000 in
set_option maxHeartbeats 4000000 in
theorem makes_o (h : WIs X c M w A) (o : Int) (hx : at? A o = some x) (hk : x.th.kind = 0) : Calls Try.prog 10 #[ptr X.wb, .agg (vcs (objV o))] w fun e w' => e = .returned (.bool false) ∧ Below w.heap.size w w' := by
  have hb : Below w.heap.size w (w.alloc (.cells (vcs (objV o)) 32)) := (Below.refl _ w).alloc (Nat.le_refl _) _
  have l1 := run_ldVp (Blk.new w (vcs (objV o)) 32)
  have hob := objectOf_v (h.old (.cells (vcs (objV o)) 32)) o hx
  unfold ObjP at hob
  rw [ifT_0 hk] at hob
  have HB := Lib.hid hb
  have me := me_ordinary_makes
  have ne := ne_nilO 120
  clear h hx hb
  go_enter Try.func10, Try.ntmps10
  go_wp2_with (first
    | (go_at_call 23; (with_reducible refine hob.mono ?_); rintro e w2 ⟨b, rfl, hb1, hb2, hb3⟩; have HX := Lib.hid (HB.out.trans (hb3.mono HB.out.size)); have hc := o_makes_any b w2; clear hb1 hb2 hb3)
    | (go_at_call 69; (with_reducible refine hc.mono ?_); rintro e w3 ⟨rfl, rfl⟩))
  go_ret
  exact ⟨rfl, HX.out⟩
end
end Go.Proofs.Ytblbeinnfbohbaa.Re

/-
  The example; what Build gives where there is room.
-/
namespace Go.Proofs.Ytblbeinnfbohbaa.Re
open Go Go.RowKit Go.Maps Go.Shelf Go.Proofs.Ytblbeinnfbohbaa.Keys Go.Proofs.Ytblbeinnfbohbaa.Hp Go.Proofs.Ytblbeinnfbohbaa.Mo Go.Proofs.Ytblbeinnfbohbaa.Mw
open Go.Proofs.Ytblbeinnfbohbaa.Des (Vl Ds zeroV zeroD dcs dcs_size dcs_one accF rigF appF eqV)
open Go.Proofs.Ytblbeinnfbohbaa.Arrs (En ecs)
set_option linter.unusedVariables false
set_option linter.unusedSimpArgs false

theorem pis_mono {b0 base : Nat} {Y : Nat → Prop} {w : World} {hs : Nat} {S : List Sc.Sco} (h : Sc.PIs base Y w hs S) (hb : b0 ≤ base) : Sc.PIs b0 Y w hs S := by
  obtain ⟨sb, mb, vb, a, c, k⟩ := h
  exact ⟨sb, mb, vb, a, c, k.head, k.row.mono hb, k.sco, k.par, k.map, k.var, k.vinj, k.minj, fun b hY => ⟨Nat.le_trans hb (k.low b hY).1, (k.low b hY).2⟩, k.xh, k.xr, k.xs, k.xm, k.xv⟩
theorem lim_0 : Sc.Lim 0 [⟨-1, []⟩] := ⟨Nat.le_refl _, fun i sc hi => by
  cases i with
  | zero => simp at hi; subst hi; simp
  | succ i => simp at hi⟩
/-- What is there at first. -/
def beg (F R D : Int) : St := ⟨newA F R D, [⟨-1, []⟩], false⟩
theorem beg_none : (buildF (beg 0 0 0)).full = true := by kernel_rfl
theorem beg_full : (buildF (beg 100 100 10)).full = false := by kernel_rfl
/-- A name, what it means, what object it is. -/
structure NameIs (nme : ByteArray) (o : Nat) (kd code : Int) : Prop where
  fine : Sc.Fine nme
  get : (Sc.getF (buildF (beg 100 100 10)).S 0 nme) = (scV (objV o), 0)
  set : (Sc.setF (buildF (beg 100 100 10)).S 0 nme (scV zeroV)).1 = 3
  obj : (at? (buildF (beg 100 100 10)).A o).map (fun x => (x.th.kind, x.th.code)) = some (kd, code)
  kind : kd = 2 ∨ kd = 0
theorem nameProxy : NameIs nProxy 5 2 30 := ⟨(fx _ (by decide)).1, by kernel_rfl, by kernel_rfl, by kernel_rfl, .inl rfl⟩
theorem nameReflect : NameIs nReflect 7 0 0 := ⟨(fx _ (by decide)).1, by kernel_rfl, by kernel_rfl, by kernel_rfl, .inr rfl⟩
theorem nameObject : NameIs nObject 21 0 0 := ⟨(fx _ (by decide)).1, by kernel_rfl, by kernel_rfl, by kernel_rfl, .inr rfl⟩
theorem nameSymbol : NameIs nSymbol 28 2 34 := ⟨(fx _ (by decide)).1, by kernel_rfl, by kernel_rfl, by kernel_rfl, .inl rfl⟩
theorem nameArray : NameIs nArray 29 0 0 := ⟨(fx _ (by decide)).1, by kernel_rfl, by kernel_rfl, by kernel_rfl, .inr rfl⟩
theorem namePrint : NameIs nPrint 31 2 33 := ⟨(fx _ (by decide)).1, by kernel_rfl, by kernel_rfl, by kernel_rfl, .inl rfl⟩
section
variable {X : Cx} {c : Nat} {w w' w'' : World} {M : Wm} {A : Aw}
/-- The world and the scopes, new. -/
theorem begin_v {W2 w3 w4 : World} {wb hs : Nat} {F R D : Int} {Y : Nat → Prop} (hW : WIs ⟨W2, wb, .nilIface, false, 0, min (max D 0) 1000⟩ 55 M w3 (newA F R D)) (hp : Sc.PIs w3.heap.size Y w4 hs [⟨-1, []⟩]) (hb : Below w3.heap.size w3 w4) :
    Calls Try.prog 7 #[ptr wb, ptr hs] w4 (BuildP ⟨W2, wb, .nilIface, false, 0, min (max D 0) 1000⟩ M.hb hs 0 6 (fun b => b ∈ M.bl wb ∨ Y b) w4 (buildF (beg F R D))) :=
  build_v (X := ⟨W2, wb, .nilIface, false, 0, min (max D 0) 1000⟩) (c := 0) (n := 0) (hW.call hb) (pis_mono hp hW.bel.size) (fun b hY hm => by have := (hp.low b hY).1; have := hW.lt b hm; omega) lim_0 (by decide)
theorem build_out {W2 w4 w5 : World} {wb hs hb : Nat} {F0 : Nat → Prop} {dl : Int} {s' : St} {e : Ending} {b : Bool} (hf : s'.full = b) (h : BuildP ⟨W2, wb, .nilIface, false, 0, dl⟩ hb hs 0 6 F0 w4 s' e w5) :
    e = .returned (.agg (rcs ((if b then flowR 3 else zeroRr).mem nilS))) ∧ ∃ M Y, WIs ⟨W2, wb, .nilIface, false, 0, dl⟩ 0 M w5 s'.A ∧ Sc.PIs W2.heap.size Y w5 hs s'.S := by
  obtain ⟨h1, ⟨bb, cb, F', r⟩, -, -⟩ := h
  obtain ⟨M, Y, -, k1, k2, -⟩ := r.ex
  exact ⟨hf ▸ h1, M, Y, k1, k2⟩
end
theorem run_bdBn (w : World) (a b c : Int) : True := trivial
theorem ns_nil (b : Nat) (w : World) : True := trivial
attribute [local go_sem ↓] ldR stR alR bxR bdR ldV stV alV bxV bdV ldKy bxKy bdKy bdT alT stT bxT ldT bdD alD stD
attribute [local irreducible] rcs dcs ecs vcs acs kcs xcs tcs
attribute [local go_sem ↓] bxD
attribute [local go_sem] run_bx run_alV run_stVg run_alT run_bdTp run_bdTf run_bdDh run_bdO6 run_bdN1 run_alD run_stDg run_bdKs
attribute [local go_sem] run_alR run_stRg
section
variable {X : Cx} {c : Nat} {w w' w'' : World} {M : Wm} {A : Aw}
set_option maxRecDepth 100000 in
set_option maxHeartbeats 4000000 in
theorem alive_v (w : World) : Calls Try.prog 4 #[] w fun e w' => e = .returned (.bool true) ∧ Below w.heap.size w w' := by
  have hnew := new_any w ⟨trivial⟩ 0 0 0 55 (by decide) false (Below.refl _ w)
  go_enter Try.func4, Try.ntmps4
  go_wp2_with (first
    | (go_at_call 5; (with_reducible refine hnew.mono ?_); rintro e w2 ⟨wb, M, rfl, hW, -, -, -⟩; have HW := Lib.hid hW; clear hW hnew)
    | (go_at_call 6; (with_reducible refine (Sc.new_any _).mono ?_); rintro e w3 ⟨hs, Y, rfl, hp, hb⟩; have hbu := begin_v HW.out hp hb; clear hp hb)
    | (go_at_call 7; (with_reducible refine hbu.mono ?_); intro e w4 hq; obtain ⟨rfl, M4, Y4, hW4, -⟩ := build_out beg_none hq; have hg4 := goodR (flowR 3); have f4 : (w4.alloc (.cells (rcs ((flowR 3).mem nilS)) 37)).cell? ⟨w4.heap.size, 0, none⟩ = some (.int .i64 3) := rep_f (r := (flowR 3).mem nilS) (Blk.new _ _ _); have HB := Lib.hid (show Below w.heap.size w (w4.alloc (.cells (rcs ((flowR 3).mem nilS)) 37)) from hW4.bel.alloc hW4.bel.size _); clear hq hW4 hbu))
  go_ret
  exact ⟨rfl, HB.out⟩
end
end Go.Proofs.Ytblbeinnfbohbaa.Re
