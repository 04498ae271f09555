/-
  A property taken out.
-/
import Derived.Test.YtlhgiihooalanaaDoorHpPutO
namespace Go.Proofs.YtlhgiihooalanaaDoor.Hp
open Go Go.RowKit Go.Maps Go.Proofs.YtlhgiihooalanaaDoor.Keys
set_option linter.unusedVariables false
set_option linter.unusedSimpArgs false
section
attribute [local go_sem ↓] ldE ldD alD stD bdEn
attribute [local irreducible] ecs ncs hcs dcs
attribute [local go_sem] run_bx run_alD run_bdEn ecs_0 ecs_1 ncs_20 ncs_21 ncs_22 hcs_20 hcs_23
set_option maxRecDepth 100000 in
set_option maxHeartbeats 4000000 in
theorem pdrop_none (pb mb n : Nat) (ns : List Nd) (k : KV) (w : World) (h : Obj1 w pb mb n ns) (hk : Fine k) (hl : look ns k = none) :
    Calls Tryd.prog 21 #[ptr pb, .agg #[.string k.1, .int .i64 k.2]] w fun e w' => e = .returned (.bool false) ∧ Below w.heap.size w w' := by
  obtain ⟨W1, hW1⟩ : ∃ W1, w.alloc (.cells #[.string k.1, .int .i64 k.2] 35) = W1 := ⟨_, rfl⟩
  have b1 : Below w.heap.size w W1 := by rw [← hW1]; exact (Below.refl _ w).alloc (Nat.le_refl _) _
  have h1 := h.call b1
  have y1 : Blk W1 w.heap.size #[.string k.1, .int .i64 k.2] 35 := by rw [← hW1]; exact Blk.new w _ _
  have pm : W1.cell? ⟨pb, 23, none⟩ = some (.map (some mb)) := by rw [h1.ring.head.cell, hcs_23]
  have l0 := y1.cell 0
  have l1 := y1.cell 1
  have hlk : (Instr.lookup 71 (.map (some mb)) (.agg #[.string k.1, .int .i64 k.2]) false).run Tryd.prog W1.drew = .ok (.pointer none) W1.drew := by
    have := h1.drew.map.look hk
    rw [hl] at this
    exact this
  have B1 := Lib.hid b1
  clear h h1 y1 b1 hl hk
  go_enter Tryd.func21, Tryd.ntmps21
  go_wp2
  go_region
  all_goals go_wp2
  all_goals go_ret
  all_goals exact ⟨rfl, B1.out.drew⟩
set_option maxRecDepth 100000 in
set_option maxHeartbeats 8000000 in
theorem pdrop_some (pb mb n : Nat) (l r : List Nd) (x : Nd) (w : World) (h : Obj1 w pb mb n (l ++ x :: r)) (ho : Once1 (l ++ x :: r)) (hk : Fine (ekey x.e)) :
    Calls Tryd.prog 21 #[ptr pb, .agg #[.string x.e.ks, .int .i64 x.e.kn]] w fun e w' => e = .returned (.bool true) ∧ Obj1 w' pb mb n (l ++ r) ∧ Once1 (l ++ r) ∧ Turn w w' pb mb (l ++ x :: r) := by
  obtain ⟨W1, hW1⟩ : ∃ W1, w.alloc (.cells #[.string x.e.ks, .int .i64 x.e.kn] 35) = W1 := ⟨_, rfl⟩
  have b1 : Below w.heap.size w W1 := by rw [← hW1]; exact (Below.refl _ w).alloc (Nat.le_refl _) _
  have h1 := h.call b1
  have y1 : Blk W1 w.heap.size #[.string x.e.ks, .int .i64 x.e.kn] 35 := by rw [← hW1]; exact Blk.new w _ _
  have pm : W1.cell? ⟨pb, 23, none⟩ = some (.map (some mb)) := by rw [h1.ring.head.cell, hcs_23]
  have l0 := y1.cell 0
  have l1 := y1.cell 1
  have hlk : (Instr.lookup 71 (.map (some mb)) (.agg #[.string x.e.ks, .int .i64 x.e.kn]) false).run Tryd.prog W1.drew = .ok (.pointer (some ⟨x.b, 0, none⟩)) W1.drew := by
    have := h1.drew.map.look hk
    rw [ho.look] at this
    exact this
  obtain ⟨A, hA⟩ : ∃ A, lst pb l = A := ⟨_, rfl⟩
  obtain ⟨C, hC⟩ : ∃ C, nxt r pb = C := ⟨_, rfl⟩
  have hseg := h1.ring.seg
  rw [seg_append] at hseg
  have hb := hseg.2.1
  rw [hA, hC] at hb
  have hap := h1.ring.apart
  have nA : A ≠ x.b := by
    rw [← hA]
    have hh := hap
    simp only [blks, List.map_append, List.map_cons, List.nodup_cons, List.mem_append, List.mem_cons, not_or, List.nodup_append] at hh
    obtain ⟨⟨q1, q2, q3⟩, q4, ⟨q5, q6⟩, q7⟩ := hh
    rcases lst_mem l pb with ⟨e, _⟩ | e
    · rw [e]; exact q2
    · exact fun e2 => q7 _ e x.b (.inl rfl) e2
  have nC : C ≠ x.b := by
    rw [← hC]
    have hh := hap
    simp only [blks, List.map_append, List.map_cons, List.nodup_cons, List.mem_append, List.mem_cons, not_or, List.nodup_append] at hh
    obtain ⟨⟨q1, q2, q3⟩, q4, ⟨q5, q6⟩, q7⟩ := hh
    rcases nxt_mem r pb with ⟨e, _⟩ | e
    · rw [e]; exact q2
    · exact fun e2 => q5 (e2 ▸ e)
  obtain ⟨CA, tA, bA, hA1⟩ := Ring.at_a (l := l) (r := x :: r) h1.ring
  obtain ⟨CC, tC, bC, hC1⟩ := (show Ring W1 pb mb ((l ++ [x]) ++ r) by rw [List.append_assoc]; exact h1.ring).at_c
  rw [hA] at bA
  rw [hC] at bC
  have c20 : W1.cell? ⟨x.b, 20, none⟩ = some (.pointer (some ⟨A, 0, none⟩)) := by rw [hb.cell, ncs_20]
  have c21 : W1.cell? ⟨x.b, 21, none⟩ = some (.pointer (some ⟨C, 0, none⟩)) := by rw [hb.cell, ncs_21]
  have sA := (bA.cell 21).trans hA1
  have sC := (bC.cell 20).trans hC1
  have fA := bA.frozen 21
  have fC := bC.frozen 20
  have a20 : (W1.setCell ⟨A, 21, none⟩ (.pointer (some ⟨C, 0, none⟩))).cell? ⟨x.b, 20, none⟩ = some (.pointer (some ⟨A, 0, none⟩)) := by rw [World.cell?_setCell_other _ _ _ _ (by simp)]; exact c20
  have a21 : (W1.setCell ⟨A, 21, none⟩ (.pointer (some ⟨C, 0, none⟩))).cell? ⟨x.b, 21, none⟩ = some (.pointer (some ⟨C, 0, none⟩)) := by rw [World.cell?_setCell_other _ _ _ _ (by simp [nA])]; exact c21
  have d20 : (W1.setCell ⟨C, 20, none⟩ (.pointer (some ⟨A, 0, none⟩))).cell? ⟨x.b, 20, none⟩ = some (.pointer (some ⟨A, 0, none⟩)) := by rw [World.cell?_setCell_other _ _ _ _ (by simp [nC])]; exact c20
  have d21 : (W1.setCell ⟨C, 20, none⟩ (.pointer (some ⟨A, 0, none⟩))).cell? ⟨x.b, 21, none⟩ = some (.pointer (some ⟨C, 0, none⟩)) := by rw [World.cell?_setCell_other _ _ _ _ (by simp)]; exact c21
  have sA2 : (W1.setCell ⟨C, 20, none⟩ (.pointer (some ⟨A, 0, none⟩))).cell? ⟨A, 21, none⟩ = some (ptr (nxt (x :: r) pb)) := by rw [World.cell?_setCell_other _ _ _ _ (by simp)]; exact sA
  have sC2 : (W1.setCell ⟨A, 21, none⟩ (.pointer (some ⟨C, 0, none⟩))).cell? ⟨C, 20, none⟩ = some (ptr (lst pb (l ++ [x]))) := by rw [World.cell?_setCell_other _ _ _ _ (by simp)]; exact sC
  obtain ⟨W3, hW3⟩ : ∃ W3, link W1 A C (ptr C) (ptr A) = W3 := ⟨_, rfl⟩
  have hlk1 : (W1.setCell ⟨A, 21, none⟩ (.pointer (some ⟨C, 0, none⟩))).setCell ⟨C, 20, none⟩ (.pointer (some ⟨A, 0, none⟩)) = W3 := hW3
  have hlk2 : (W1.setCell ⟨C, 20, none⟩ (.pointer (some ⟨A, 0, none⟩))).setCell ⟨A, 21, none⟩ (.pointer (some ⟨C, 0, none⟩)) = W3 := by rw [setCell_comm]; exact hW3
  have g0 : W3.cell? ⟨w.heap.size, 0, none⟩ = some (.string x.e.ks) := by rw [← hW3, link_cell _ _ _ _ _ _ _ (by omega) (by omega), y1.cell]; rfl
  have g1 : W3.cell? ⟨w.heap.size, 1, none⟩ = some (.int .i64 x.e.kn) := by rw [← hW3, link_cell _ _ _ _ _ _ _ (by omega) (by omega), y1.cell]; rfl
  have g2 : W3.cell? ⟨pb, 23, none⟩ = some (.map (some mb)) := by rw [← hW3, link_cell _ _ _ _ _ _ _ (by omega) (by omega)]; exact pm
  have hxa : x.a = none := ho.none x (by simp)
  have g22 : W3.cell? ⟨x.b, 22, none⟩ = some (.pointer none) := by rw [← hW3, link_cell _ _ _ _ _ _ _ (by omega) (by omega), hb.cell, ncs_22, hxa]
  have hmn := h1.ring.notmap h1.map
  have hAm := Ring.mem_a (pb := pb) l (x :: r)
  have hCm : C ∈ blks pb (l ++ x :: r) := by
    have := Ring.mem_c (pb := pb) (l ++ [x]) r
    rw [hC, List.append_assoc] at this
    exact this
  rw [hA] at hAm
  have hm3 : MapIs W3 mb n (look (l ++ x :: r)) := by
    refine h1.map.same ?_
    rw [← hW3]
    exact link_other _ _ _ _ _ _ (fun e => hmn (e ▸ hAm)) (fun e => hmn (e ▸ hCm))
  obtain ⟨hod, hlo⟩ := ho.drop
  have hend : ∀ W4 w5 : World, W4.heap = W3.heap → Fr W1 W4 → MapIs w5 mb n (upd (look (l ++ x :: r)) (ekey x.e) none) → W4.mapTurned w5 mb → Obj1 w5 pb mb n (l ++ r) ∧ Turn w w5 pb mb (l ++ x :: r) := fun W4 w5 e4 f4 m5 t5 => by
    have hw : ∀ b, b ≠ mb → w5.heap[b]? = (link W1 A C (ptr C) (ptr A)).heap[b]? := fun b hb => by rw [turned_other t5 hb, e4, hW3]
    refine ⟨⟨Ring.drop h1.ring fun b hbm => ?_, by rw [← hlo]; exact m5⟩, below_turn b1 ⟨f4.turned t5, fun b hb h2 h3 => ?_⟩⟩
    · rw [hA, hC]
      refine hw b fun e => hmn ?_
      rw [← e]
      simp only [blks, List.map_append, List.map_cons, List.mem_cons, List.mem_append] at hbm ⊢
      rcases hbm with hbm | hbm | hbm <;> simp [hbm]
    · rw [hw b h3]
      exact link_other _ _ _ _ _ _ (fun e => h2 (e ▸ hAm)) (fun e => h2 (e ▸ hCm))
  have HE := Lib.hid hend
  have HM := Lib.hid hm3
  have OD := Lib.hid hod
  have fr3 : Fr W1 W3 := by rw [← hW3]; exact (Fr.refl W1).link _ _ _ _
  clear hend hm3 hod hlo hAm hCm hmn bA bC hA1 hC1 hap hseg hb nA nC h h1 y1 ho hxa hW3 hA hC
  obtain ⟨w5, hdel, m5, t5⟩ := MapIs.del (w := W3.drew.drew.drew) HM.out hk 0
  have hdel2 : (Builtin.delete_ #[71, 35] 0 #[.map (some mb), .agg #[.string x.e.ks, .int .i64 x.e.kn]]).run Tryd.prog W3.drew.drew.drew = .ok (.tuple #[]) w5 := hdel
  clear hdel
  have hfin := HE.out W3.drew.drew.drew w5 rfl fr3.drew.drew.drew m5 t5
  have HF := Lib.hid hfin
  clear hfin m5 t5 HE HM fr3 hk
  go_enter Tryd.func21, Tryd.ntmps21
  go_wp2
  go_region
  all_goals go_wp2
  all_goals go_region
  all_goals go_wp2
  all_goals go_region
  all_goals go_wp2
  all_goals go_ret
  all_goals exact ⟨rfl, HF.out.1, OD.out, HF.out.2⟩
end
end Go.Proofs.YtlhgiihooalanaaDoor.Hp
