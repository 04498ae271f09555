/-
  A property laid; a property taken out.
-/
import Derived.Test.YtlhgiihooalanaaDoorHpGetP
namespace Go.Proofs.YtlhgiihooalanaaDoor.Hp
open Go Go.RowKit Go.Maps Go.Proofs.YtlhgiihooalanaaDoor.Keys
set_option linter.unusedVariables false
set_option linter.unusedSimpArgs false
/-- No key twice. -/
structure Once1 (ns : List Nd) : Prop where
  none : ∀ n ∈ ns, n.a = none
  once : (ns.map fun n => ekey n.e).Nodup
theorem Once1.look {l r : List Nd} {x : Nd} (h : Once1 (l ++ x :: r)) : look (l ++ x :: r) (ekey x.e) = some x.b := by
  have hn := h.once
  simp only [List.map_append, List.map_cons, List.nodup_append, List.nodup_cons] at hn
  unfold Hp.look
  rw [List.find?_append]
  have : l.find? (fun n => decide (ekey n.e = ekey x.e)) = Option.none := by
    rw [List.find?_eq_none]
    intro m hm
    simp only [decide_eq_true_eq]
    exact fun e => hn.2.2 (ekey m.e) (List.mem_map.2 ⟨m, hm, rfl⟩) (ekey x.e) (by simp) e
  rw [this]
  simp
theorem Once1.drop {l r : List Nd} {x : Nd} (h : Once1 (l ++ x :: r)) : Once1 (l ++ r) ∧ upd (Hp.look (l ++ x :: r)) (ekey x.e) Option.none = Hp.look (l ++ r) := by
  have hn := h.once
  simp only [List.map_append, List.map_cons, List.nodup_append, List.nodup_cons] at hn
  obtain ⟨h1, ⟨h2, h3⟩, h4⟩ := hn
  have hl : ∀ m ∈ l, ekey m.e ≠ ekey x.e := fun m hm e => h4 (ekey m.e) (List.mem_map.2 ⟨m, hm, rfl⟩) (ekey x.e) (by simp) e
  have hr : ∀ m ∈ r, ekey m.e ≠ ekey x.e := fun m hm e => h2 (e ▸ List.mem_map.2 ⟨m, hm, rfl⟩)
  refine ⟨⟨fun n hn => h.none n (by simp at hn ⊢; rcases hn with hn | hn <;> simp [hn]), ?_⟩, ?_⟩
  · rw [List.map_append, List.nodup_append]
    exact ⟨h1, h3, fun a ha b hb => h4 a ha b (List.mem_cons_of_mem _ hb)⟩
  · funext k
    unfold upd
    by_cases hk : k = ekey x.e
    · rw [if_pos hk]
      symm
      rw [look_none]
      intro m hm
      rw [hk]
      rcases List.mem_append.1 hm with hm | hm
      · exact hl m hm
      · exact hr m hm
    · rw [if_neg hk]
      have h' : ¬ ekey x.e = k := fun e => hk e.symm
      unfold Hp.look
      rw [List.find?_append, List.find?_append, List.find?_cons]
      simp [h']
theorem Once1.snoc {ns : List Nd} {x : Nd} (h : Once1 ns) (ha : x.a = Option.none) (hl : Hp.look ns (ekey x.e) = Option.none) : Once1 (ns ++ [x]) := by
  rw [look_none] at hl
  refine ⟨fun n hn => ?_, ?_⟩
  · rcases List.mem_append.1 hn with hn | hn
    · exact h.none n hn
    · rw [List.mem_singleton.1 hn]; exact ha
  · rw [List.map_append, List.nodup_append]
    refine ⟨h.once, by simp, fun a ha b hb => ?_⟩
    obtain ⟨m, hm, rfl⟩ := List.mem_map.1 ha
    simp at hb
    rw [hb]
    exact hl m hm
theorem ins_end {w w' : World} {pb mb n : Nat} {ns : List Nd} {e : En} {y : Ending} (h : Obj1 w pb mb n ns) (ho : Once1 ns) (hi : InsPost w mb n (lst pb ns) pb (look ns) e y w') (hl : look ns (ekey e) = none) :
    y = .returned (.tuple #[]) ∧ ∃ x : Nd, x.e = e ∧ w.heap.size ≤ x.b ∧ Obj1 w' pb mb (n + 1) (ns ++ [x]) ∧ Once1 (ns ++ [x]) ∧ Turn w w' pb mb ns := by
  obtain ⟨hy, x, hx, hb, hm, hw, hf⟩ := hi
  have hnm := h.ring.notmap h.map
  have hlt := h.ring.lt
  rw [hl] at hb
  have hh : Obj1 w pb mb n (ns ++ []) := by rw [List.append_nil]; exact h
  refine ⟨hy, ⟨x, e, none⟩, rfl, hx, ⟨hh.ring.insert ⟨x, e, none⟩ (fun hm => by rw [List.append_nil] at hm; have := hlt _ hm; simp at this; omega) hb fun b hbm => hw b (by rw [List.append_nil] at hbm; exact hlt b hbm) (fun e => hnm (by rw [List.append_nil] at hbm; exact e ▸ hbm)), ?_⟩, ho.snoc rfl hl, hf, fun b hb h1 h2 => ?_⟩
  · have := look_snoc (n := ⟨x, e, none⟩) hl
    rw [← this]
    exact hm
  · rw [hw b hb h2]
    have h1' : b ∉ blks pb (ns ++ []) := by rw [List.append_nil]; exact h1
    exact link_other _ _ _ _ _ _ (fun e => h1' (e ▸ Ring.mem_a ns [])) (fun e => h1' (e ▸ Ring.mem_c ns []))
theorem insert_end {w : World} {pb mb n : Nat} {ns : List Nd} {e : En} (h : Obj1 w pb mb n ns) (ho : Once1 ns) (hn : n < 1000) (hk : Fine (ekey e)) (hl : look ns (ekey e) = none) :
    Calls Tryd.prog 26 #[ptr pb, ptr (lst pb ns), .agg (ecs e)] w fun y w' => y = .returned (.tuple #[]) ∧ ∃ x : Nd, x.e = e ∧ w.heap.size ≤ x.b ∧ Obj1 w' pb mb (n + 1) (ns ++ [x]) ∧ Once1 (ns ++ [x]) ∧ Turn w w' pb mb ns := by
  have hh : Obj1 w pb mb n (ns ++ []) := by rw [List.append_nil]; exact h
  obtain ⟨CA, tA, hA, hA1⟩ := hh.ring.at_a
  obtain ⟨CC, tC, hC, hC1⟩ := hh.ring.at_c
  exact (insert_any pb mb n _ _ _ e _ _ _ CA CC tA tC w h.ring.head hA hA1 hC hC1 h.map hn hk).mono fun y w' hi => ins_end h ho hi hl
theorem bdEn (ps : Array (Nat × Value)) : Instr.build 68 ps = Bd 68 ps := (rfl)
theorem run_bdEn (w : World) (k : KV) (d : Ds) : (Bd 68 #[(0, .agg #[.string k.1, .int .i64 k.2]), (1, .agg (dcs d))]).run Tryd.prog w = .ok (.agg (ecs ⟨k.1, k.2, d⟩)) w := run_build w _ _ _ (by kernel_rfl)
theorem below_turn {w w1 w' : World} {pb mb : Nat} {ns : List Nd} (hb : Below w.heap.size w w1) (h : Turn w1 w' pb mb ns) : Turn w w' pb mb ns :=
  ⟨⟨h.fr.os.trans hb.os, h.fr.tape.trans hb.tape, h.fr.output.trans hb.output, Nat.le_trans hb.size h.fr.size⟩, fun b hlt h1 h2 => (h.same b (by have := hb.size; omega) h1 h2).trans (hb.block b hlt)⟩
section
attribute [local go_sem ↓] ldE ldD alD stD bdEn
attribute [local irreducible] ecs ncs hcs dcs
attribute [local go_sem] run_bx run_alD run_bdEn ecs_0 ecs_1 ncs_20 ncs_21 ncs_22 hcs_20 hcs_23
set_option maxRecDepth 100000 in
set_option maxHeartbeats 4000000 in
theorem pput_new (pb mb n : Nat) (ns : List Nd) (k : KV) (d : Ds) (w : World) (h : Obj1 w pb mb n ns) (ho : Once1 ns) (hn : n < 1000) (hk : Fine k) (hl : look ns k = none) :
    Calls Tryd.prog 17 #[ptr pb, .agg #[.string k.1, .int .i64 k.2], .agg (dcs d)] w fun e w' => e = .returned (.tuple #[]) ∧ ∃ x : Nd, x.e = ⟨k.1, k.2, d⟩ ∧ w.heap.size ≤ x.b ∧ Obj1 w' pb mb (n + 1) (ns ++ [x]) ∧ Once1 (ns ++ [x]) ∧ Turn w w' pb mb ns := by
  obtain ⟨W1, hW1⟩ : ∃ W1, w.alloc (.cells #[.string k.1, .int .i64 k.2] 35) = W1 := ⟨_, rfl⟩
  have k1 : W1.heap.size = w.heap.size + 1 := by rw [← hW1]; simp
  obtain ⟨W2, hW2⟩ : ∃ W2, W1.alloc (.cells (dcs d) 38) = W2 := ⟨_, rfl⟩
  have b2 : Below w.heap.size w W2 := by rw [← hW2, ← hW1]; exact ((Below.refl _ w).alloc (Nat.le_refl _) _).alloc (by simp) _
  have h2 := h.call b2
  have y2 : Blk W2 w.heap.size #[.string k.1, .int .i64 k.2] 35 := by rw [← hW2, ← hW1]; exact (Blk.new w _ _).old _
  have z2 : Blk W2 (w.heap.size + 1) (dcs d) 38 := by
    have := Blk.new W1 (dcs d) 38
    rw [hW2, k1] at this
    exact this
  have pm : W2.cell? ⟨pb, 23, none⟩ = some (.map (some mb)) := by rw [h2.ring.head.cell, hcs_23]
  have p20 : W2.cell? ⟨pb, 20, none⟩ = some (ptr (lst pb ns)) := by rw [h2.ring.head.cell, hcs_20]
  have l0 := y2.cell 0
  have l1 := y2.cell 1
  have hlk : (Instr.lookup 71 (.map (some mb)) (.agg #[.string k.1, .int .i64 k.2]) false).run Tryd.prog W2.drew = .ok (.pointer none) W2.drew := by
    have := h2.drew.map.look hk
    rw [hl] at this
    exact this
  have hins := insert_end (e := ⟨k.1, k.2, d⟩) h2.drew.drew ho hn hk hl
  have b3 : Below w.heap.size w W2.drew.drew := b2.drew.drew
  have hs3 : w.heap.size ≤ W2.drew.drew.heap.size := b2.size
  have ld := run_ldMid (w := W2.drew.drew) (b := w.heap.size + 1) (o := 0) (d := d) (fun j v hv => by rw [Nat.zero_add]; exact (z2.cell j).trans (by simpa using hv))
  have HI := Lib.hid hins
  have B3 := Lib.hid b3
  clear hins b3 h2 h y2 z2 b2
  go_enter Tryd.func17, Tryd.ntmps17
  go_wp2
  go_region
  all_goals go_wp2
  all_goals go_region_with (go_at_call 26; refine HI.out.mono ?_; rintro e w' ⟨rfl, x, hx, hsz, hob, hon, htu⟩)
  all_goals go_wp2
  all_goals go_end0
  all_goals exact ⟨rfl, x, hx, by omega, hob, hon, below_turn B3.out htu⟩
end
end Go.Proofs.YtlhgiihooalanaaDoor.Hp
