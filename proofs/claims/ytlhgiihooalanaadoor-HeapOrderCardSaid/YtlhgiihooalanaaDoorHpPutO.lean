/-
  A property's descriptor laid anew.
-/
import Derived.Test.YtlhgiihooalanaaDoorHpPut
namespace Go.Proofs.YtlhgiihooalanaaDoor.Hp
open Go Go.RowKit Go.Maps Go.Proofs.YtlhgiihooalanaaDoor.Keys
set_option linter.unusedVariables false
set_option linter.unusedSimpArgs false
theorem ncs_desc (e : En) (p q a : Value) (d : Ds) : (((((((((((((((((((ncs e p q a).setIfInBounds 2 (.bool d.hv)).setIfInBounds 3 (.bool d.hg)).setIfInBounds 4 (.bool d.hs)).setIfInBounds 5 (.bool d.hw)).setIfInBounds 6 (.bool d.he)).setIfInBounds 7 (.bool d.hc)).setIfInBounds 8 (.int .i64 d.v.k)).setIfInBounds 9 (.int .i64 d.v.n)).setIfInBounds 10 (.string d.v.s)).setIfInBounds 11 (.int .i64 d.g.k)).setIfInBounds 12 (.int .i64 d.g.n)).setIfInBounds 13 (.string d.g.s)).setIfInBounds 14 (.int .i64 d.s.k)).setIfInBounds 15 (.int .i64 d.s.n)).setIfInBounds 16 (.string d.s.s)).setIfInBounds 17 (.bool d.w)).setIfInBounds 18 (.bool d.e)).setIfInBounds 19 (.bool d.c)) = ncs { e with d := d } p q a := by simp [ncs]
theorem Blk.desc {w : World} {b : Nat} {e : En} {p q a : Value} {t : TypeId} (h : Blk w b (ncs e p q a) t) (d : Ds) : Blk (w.setCells b 2 (dcs d).toList) b (ncs { e with d := d } p q a) t := by
  have := (((((((((((((((((h.set 2 (.bool d.hv)).set 3 (.bool d.hg)).set 4 (.bool d.hs)).set 5 (.bool d.hw)).set 6 (.bool d.he)).set 7 (.bool d.hc)).set 8 (.int .i64 d.v.k)).set 9 (.int .i64 d.v.n)).set 10 (.string d.v.s)).set 11 (.int .i64 d.g.k)).set 12 (.int .i64 d.g.n)).set 13 (.string d.g.s)).set 14 (.int .i64 d.s.k)).set 15 (.int .i64 d.s.n)).set 16 (.string d.s.s)).set 17 (.bool d.w)).set 18 (.bool d.e)).set 19 (.bool d.c)
  rw [ncs_desc] at this
  exact this
theorem there_blk {w : World} {b : Nat} {cs : Array Value} {t : TypeId} (h : Blk w b cs t) {o k : Nat} (hk : o + k ≤ cs.size) : w.there b o k := fun j hj => by
  refine ⟨?_, h.frozen (o + j)⟩
  rw [h.cell]
  simp
  omega
theorem setCells_block (b : Nat) : ∀ (vs : List Value) (o : Nat) (w : World) (k : Nat), k ≠ b → (w.setCells b o vs).heap[k]? = w.heap[k]?
  | [], _, _, _, _ => rfl
  | v :: r, o, w, k, h => by
    rw [World.setCells, setCells_block b r (o + 1) _ k h]
    exact heap_setCell_other w ⟨b, o, none⟩ k v h
theorem setCells_fr (b : Nat) : ∀ (vs : List Value) (o : Nat) (w : World), Fr w (w.setCells b o vs) ∧ (w.setCells b o vs).heap.size = w.heap.size
  | [], _, w => ⟨Fr.refl w, rfl⟩
  | v :: r, o, w => by
    obtain ⟨h1, h2⟩ := setCells_fr b r (o + 1) (w.setCell ⟨b, o, none⟩ v)
    rw [World.setCells]
    exact ⟨((Fr.refl w).set _ _).trans h1, h2.trans (by simp [World.setCell])⟩
theorem run_stMid {w : World} {b o : Nat} {T : TypeId} {cs : Array Value} (ht : w.there b o cs.size) (hi : (Tryd.prog.info? T).map (·.size) = some cs.size) (h1 : cs.all (·.oneCell') = true) : (St T (.pointer (some ⟨b, o, none⟩)) (.agg cs)).run Tryd.prog w = .ok () (w.setCells b o cs.toList) :=
  run_storeAt_mid (P := Tryd.prog) w b o T cs ht hi h1
/-- A place with another descriptor. -/
def Nd.desc (x : Nd) (d : Ds) : Nd := ⟨x.b, ⟨x.e.ks, x.e.kn, d⟩, x.a⟩
theorem look_desc (l r : List Nd) (x : Nd) (d : Ds) : look (l ++ x.desc d :: r) = look (l ++ x :: r) := by
  funext k
  unfold look
  rw [List.find?_append, List.find?_append, List.find?_cons, List.find?_cons]
  have : ekey (x.desc d).e = ekey x.e := rfl
  rw [this]
  by_cases h : ekey x.e = k <;> cases l.find? (fun n => decide (ekey n.e = k)) <;> simp [h] <;> rfl
theorem nxt_desc (l r : List Nd) (x : Nd) (d : Ds) (z : Nat) : nxt (l ++ x.desc d :: r) z = nxt (l ++ x :: r) z := by cases l <;> rfl
theorem lst_desc (l r : List Nd) (x : Nd) (d : Ds) (z : Nat) : lst z (l ++ x.desc d :: r) = lst z (l ++ x :: r) := by rw [lst_append, lst_append]; rfl
theorem blks_desc (l r : List Nd) (x : Nd) (d : Ds) (pb : Nat) : blks pb (l ++ x.desc d :: r) = blks pb (l ++ x :: r) := by simp [blks, Nd.desc]
theorem Ring.desc {w w' : World} {pb mb : Nat} {l r : List Nd} {x : Nd} (h : Ring w pb mb (l ++ x :: r)) (d : Ds) (hw : ∀ k, k ≠ x.b → w'.heap[k]? = w.heap[k]?) (hx : ∀ p q, Blk w x.b (ncs x.e p q (.pointer x.a)) 70 → Blk w' x.b (ncs (x.desc d).e p q (.pointer x.a)) 70) : Ring w' pb mb (l ++ x.desc d :: r) := by
  obtain ⟨hh, hs, ha⟩ := h
  have ha' := ha
  simp only [blks, List.map_append, List.map_cons, List.nodup_cons, List.mem_append, List.mem_cons, not_or, List.nodup_append] at ha
  obtain ⟨⟨h1, h2, h3⟩, h4, ⟨h5, h6⟩, h7⟩ := ha
  rw [seg_append] at hs
  refine ⟨?_, ?_, by rw [blks_desc]; exact ha'⟩
  · rw [nxt_desc, lst_desc]
    exact (hw pb h2).trans hh
  · rw [seg_append]
    refine ⟨seg_same hs.1 fun n hn => hw n.b fun e => h7 n.b (List.mem_map.2 ⟨n, hn, rfl⟩) x.b (.inl rfl) e, hx _ _ hs.2.1, seg_same hs.2.2 fun n hn => hw n.b fun e => h5 (e ▸ List.mem_map.2 ⟨n, hn, rfl⟩)⟩
theorem Once1.desc {l r : List Nd} {x : Nd} (h : Once1 (l ++ x :: r)) (d : Ds) : Once1 (l ++ x.desc d :: r) := by
  obtain ⟨h1, h2⟩ := h
  refine ⟨fun n hn => ?_, ?_⟩
  · simp at hn
    rcases hn with hn | rfl | hn
    · exact h1 n (by simp [hn])
    · exact h1 x (by simp)
    · exact h1 n (by simp [hn])
  · have : (l ++ x.desc d :: r).map (fun n => ekey n.e) = (l ++ x :: r).map (fun n => ekey n.e) := by simp; rfl
    rw [this]
    exact h2
section
attribute [local go_sem ↓] ldE ldD alD stD bdEn
attribute [local irreducible] ecs ncs hcs dcs
attribute [local go_sem] run_bx run_alD run_bdEn ecs_0 ecs_1 ncs_20 ncs_21 ncs_22 hcs_20 hcs_23
set_option maxRecDepth 100000 in
set_option maxHeartbeats 4000000 in
theorem pput_old (pb mb n : Nat) (l r : List Nd) (x : Nd) (d : Ds) (w : World) (h : Obj1 w pb mb n (l ++ x :: r)) (ho : Once1 (l ++ x :: r)) (hk : Fine (ekey x.e)) :
    Calls Tryd.prog 17 #[ptr pb, .agg #[.string x.e.ks, .int .i64 x.e.kn], .agg (dcs d)] w fun e w' => e = .returned (.tuple #[]) ∧ Obj1 w' pb mb n (l ++ x.desc d :: r) ∧ Once1 (l ++ x.desc d :: r) ∧ Turn w w' pb mb (l ++ x :: r) := by
  obtain ⟨W1, hW1⟩ : ∃ W1, w.alloc (.cells #[.string x.e.ks, .int .i64 x.e.kn] 35) = W1 := ⟨_, rfl⟩
  have k1 : W1.heap.size = w.heap.size + 1 := by rw [← hW1]; simp
  obtain ⟨W2, hW2⟩ : ∃ W2, W1.alloc (.cells (dcs d) 38) = W2 := ⟨_, rfl⟩
  have b2 : Below w.heap.size w W2 := by rw [← hW2, ← hW1]; exact ((Below.refl _ w).alloc (Nat.le_refl _) _).alloc (by simp) _
  have h2 := h.call b2
  have y2 : Blk W2 w.heap.size #[.string x.e.ks, .int .i64 x.e.kn] 35 := by rw [← hW2, ← hW1]; exact (Blk.new w _ _).old _
  have z2 : Blk W2 (w.heap.size + 1) (dcs d) 38 := by
    have := Blk.new W1 (dcs d) 38
    rw [hW2, k1] at this
    exact this
  have pm : W2.cell? ⟨pb, 23, none⟩ = some (.map (some mb)) := by rw [h2.ring.head.cell, hcs_23]
  have l0 := y2.cell 0
  have l1 := y2.cell 1
  have hlk : (Instr.lookup 71 (.map (some mb)) (.agg #[.string x.e.ks, .int .i64 x.e.kn]) false).run Tryd.prog W2.drew = .ok (.pointer (some ⟨x.b, 0, none⟩)) W2.drew := by
    have := h2.drew.map.look hk
    rw [ho.look] at this
    exact this
  obtain ⟨p, q, hb⟩ := seg_at x h2.ring.seg (by simp)
  have ld := run_ldMid (w := W2.drew) (b := w.heap.size + 1) (o := 0) (d := d) (fun j v hv => by rw [Nat.zero_add]; exact (z2.cell j).trans (by simpa using hv))
  have ld2 := run_ldMid (w := W2.drew.drew) (b := w.heap.size + 1) (o := 0) (d := d) (fun j v hv => by rw [Nat.zero_add]; exact (z2.cell j).trans (by simpa using hv))
  have hst := run_stMid (w := W2.drew) (b := x.b) (o := 2) (T := 38) (cs := dcs d) (there_blk (w := W2.drew) hb (by rw [dcs_size, ncs_size]; omega)) (by rw [dcs_size]; exact sizeD) (dcs_one _)
  have hst2 := run_stMid (w := W2.drew.drew) (b := x.b) (o := 2) (T := 38) (cs := dcs d) (there_blk (w := W2.drew.drew) hb (by rw [dcs_size, ncs_size]; omega)) (by rw [dcs_size]; exact sizeD) (dcs_one _)
  have hend : ∀ W3 : World, W3.heap = W2.heap → Fr W2 W3 → Hid (Obj1 (W3.setCells x.b 2 (dcs d).toList) pb mb n (l ++ x.desc d :: r) ∧ Turn w (W3.setCells x.b 2 (dcs d).toList) pb mb (l ++ x :: r)) := fun W3 e3 f3 => by
    have hne : mb ≠ x.b := fun e => h2.ring.notmap h2.map (by rw [e]; simp [blks])
    have hw : ∀ k, k ≠ x.b → (W3.setCells x.b 2 (dcs d).toList).heap[k]? = W2.heap[k]? := fun k hk => by rw [setCells_block x.b _ 2 W3 k hk, e3]
    refine ⟨⟨h2.ring.desc d hw fun p q hq => ?_, ?_⟩, below_turn b2 ⟨f3.trans (setCells_fr _ _ _ _).1, fun b hb h1 h3 => hw b fun e => h1 (by rw [e]; simp [blks])⟩⟩
    · exact Blk.desc (show Blk W3 x.b _ _ by unfold Blk; rw [e3]; exact hq) d
    · rw [look_desc]
      exact h2.map.same (hw mb hne)
  have e1 := hend W2.drew rfl (Fr.refl _).drew
  have e2 := hend W2.drew.drew rfl (Fr.refl _).drew.drew
  have OD := Lib.hid (ho.desc d)
  clear hend ho h2 h y2 z2 b2 hb
  go_enter Tryd.func17, Tryd.ntmps17
  go_wp2
  go_region
  all_goals go_wp2
  all_goals refine bodyPost_ret (results_none rfl _ _ _) rfl ?_
  all_goals exact ⟨rfl, e1.out.1, OD.out, e1.out.2⟩
end
end Go.Proofs.YtlhgiihooalanaaDoor.Hp
