/-
  collect: a list of properties becomes a ring.
-/
import Derived.Test.YtoakiejpmcgdjaaGreatDoorHpRound
namespace Go.Proofs.YtoakiejpmcgdjaaGreatDoor.Hp
open Go Go.RowKit Go.Maps Go.Shelf Go.Proofs.YtoakiejpmcgdjaaGreatDoor.Keys
set_option linter.unusedVariables false
set_option linter.unusedSimpArgs false
attribute [local go_sem] Oper.semAt_some
attribute [local go_sem ↓] ldE bxE bxN bdN bxH bdH alE stE
attribute [local irreducible] ecs ncs hcs
attribute [local go_sem] run_bx run_bdN run_bdH run_alE run_stE ecs_0 ecs_1 ncs_20 ncs_21 ncs_22 hcs_23 hcs_20 hcs_21

set_option maxRecDepth 100000 in
set_option maxHeartbeats 4000000 in
theorem collect_any (ao : Option Addr) (cap : Nat) (es : List En) (w : World) (hlen : es.length ≤ 100) (hes : EsAt w.heap.size ao es w) (hf : ∀ e ∈ es, Fine (ekey e)) :
    Calls Tryz.prog 71 #[.slice ao es.length cap] w (CollPost w es) := by
  obtain ⟨W1, hW1⟩ : ∃ W1, ((w.alloc (.map #[] 0)).alloc (.cells (hcs nilP nilP w.heap.size) 164)).alloc (.cells #[ptr (w.heap.size + 1)] 152) = W1 := ⟨_, rfl⟩
  have k1 : W1.heap.size = w.heap.size + 3 := by rw [← hW1]; simp
  have bp : Blk W1 (w.heap.size + 1) (hcs nilP nilP w.heap.size) 164 := by
    have := (Blk.new (w.alloc (.map #[] 0)) (hcs nilP nilP w.heap.size) 164).old (.cells #[ptr (w.heap.size + 1)] 152)
    rw [hW1, World.size_alloc] at this
    exact this
  have bx : Blk W1 (w.heap.size + 2) #[ptr (w.heap.size + 1)] 152 := by
    have := Blk.new ((w.alloc (.map #[] 0)).alloc (.cells (hcs nilP nilP w.heap.size) 164)) #[ptr (w.heap.size + 1)] 152
    rw [hW1, World.size_alloc, World.size_alloc] at this
    exact this
  have hm1 : MapIs W1 w.heap.size 0 (look []) := by
    rw [← hW1]
    exact ((MapIs.made w).old _).old _
  have hb1 : Below w.heap.size w W1 := by rw [← hW1]; exact (((Below.refl _ w).alloc (Nat.le_refl _) _).alloc (by simp) _).alloc (by simp; omega) _
  have c0 : W1.cell? ⟨w.heap.size + 2, 0, none⟩ = some (.pointer (some ⟨w.heap.size + 1, 0, none⟩)) := bx.cell 0
  have c20 : W1.cell? ⟨w.heap.size + 1, 20, none⟩ = some (.pointer none) := (bp.cell 20).trans (hcs_20 _ _ _)
  have c21 : W1.cell? ⟨w.heap.size + 1, 21, none⟩ = some (.pointer none) := (bp.cell 21).trans (hcs_21 _ _ _)
  have f20 := bp.frozen 20
  have f21 := bp.frozen 21
  have d20 : (W1.setCell ⟨w.heap.size + 1, 21, none⟩ (.pointer (some ⟨w.heap.size + 1, 0, none⟩))).cell? ⟨w.heap.size + 1, 20, none⟩ = some (.pointer none) := by rw [World.cell?_setCell_other _ _ _ _ (by simp)]; exact c20
  have d21 : (W1.setCell ⟨w.heap.size + 1, 20, none⟩ (.pointer (some ⟨w.heap.size + 1, 0, none⟩))).cell? ⟨w.heap.size + 1, 21, none⟩ = some (.pointer none) := by rw [World.cell?_setCell_other _ _ _ _ (by simp)]; exact c21
  have e20 : (W1.setCell ⟨w.heap.size + 1, 20, none⟩ (.pointer (some ⟨w.heap.size + 1, 0, none⟩))).cell? ⟨w.heap.size + 2, 0, none⟩ = some (.pointer (some ⟨w.heap.size + 1, 0, none⟩)) := by rw [World.cell?_setCell_other _ _ _ _ (by simp)]; exact c0
  have e21 : (W1.setCell ⟨w.heap.size + 1, 21, none⟩ (.pointer (some ⟨w.heap.size + 1, 0, none⟩))).cell? ⟨w.heap.size + 2, 0, none⟩ = some (.pointer (some ⟨w.heap.size + 1, 0, none⟩)) := by rw [World.cell?_setCell_other _ _ _ _ (by simp)]; exact c0
  obtain ⟨W2, hW2⟩ : ∃ W2, link W1 (w.heap.size + 1) (w.heap.size + 1) (ptr (w.heap.size + 1)) (ptr (w.heap.size + 1)) = W2 := ⟨_, rfl⟩
  have hlk1 : (W1.setCell ⟨w.heap.size + 1, 21, none⟩ (.pointer (some ⟨w.heap.size + 1, 0, none⟩))).setCell ⟨w.heap.size + 1, 20, none⟩ (.pointer (some ⟨w.heap.size + 1, 0, none⟩)) = W2 := hW2
  have hlk2 : (W1.setCell ⟨w.heap.size + 1, 20, none⟩ (.pointer (some ⟨w.heap.size + 1, 0, none⟩))).setCell ⟨w.heap.size + 1, 21, none⟩ (.pointer (some ⟨w.heap.size + 1, 0, none⟩)) = W2 := by rw [setCell_comm]; exact hW2
  have k2 : W2.heap.size = w.heap.size + 3 := by rw [← hW2, link_size, k1]
  have hob : Obj1 W2 (w.heap.size + 1) w.heap.size 0 [] := by
    refine ⟨⟨?_, trivial, by simp [blks]⟩, ?_⟩
    · have := (bp.set 21 (ptr (w.heap.size + 1))).set 20 (ptr (w.heap.size + 1))
      rw [hcs_set21, hcs_set20] at this
      rw [← hW2]
      exact this
    · rw [← hW2]
      exact hm1.same (link_other _ _ _ _ _ _ (by omega) (by omega))
  have bx2 : Blk W2 (w.heap.size + 2) #[ptr (w.heap.size + 1)] 152 := by
    rw [← hW2]
    exact (link_other _ _ _ _ _ _ (by omega) (by omega)).trans bx
  have hb2 : Below w.heap.size w W2 := by rw [← hW2]; exact (hb1.setCell (p := ⟨w.heap.size + 1, 21, none⟩) (by simp) _).setCell (p := ⟨w.heap.size + 1, 20, none⟩) (by simp) _
  have HOB := Lib.hid hob
  have HBX := Lib.hid bx2
  have HB2 := Lib.hid hb2
  have HES := Lib.hid hes
  have HF := Lib.hid hf
  clear hob bx2 hb2 hes hf hW2 hm1 bp bx hb1
  have hmm := make_mapP
  refine (callsIn_wide (n := 9)).1 ?_
  refine callsIn_of_wp_marks Tryz.func71 rfl trivial ?_ rfl
  simp only [Tryz.ntmps71, List.size_toArray, List.length_cons, List.length_nil, Nat.reduceAdd, Nat.reduceSub, Array.replicate_succ, Array.replicate_zero, List.push_toArray, List.append_toArray, List.nil_append, List.cons_append]
  gi_wp2
  gi_region
  all_goals gi_wp2_with (refine ⟨trivial, ?_⟩; gi_at_call 81; refine (callsIn_wide.2 (back_any _ _ _ _)).mono ?_; rintro e w' ⟨rfl, rfl⟩)
  generalize Value.pointer (some ⟨w.heap.size + 1, 0, none⟩) = u1
  generalize Value.pointer (some ⟨w.heap.size + 1, 20, none⟩) = u2
  generalize Value.pointer (some ⟨w.heap.size + 1, 21, none⟩) = u3
  generalize Value.agg (hcs nilP nilP w.heap.size) = u4
  generalize Value.int IntKind.i64 es.length = u5
  generalize Value.map (some w.heap.size) = u6
  obtain ⟨W0, hW0⟩ : ∃ W0, (W2.alloc (.cells #[.slice ao es.length cap] 84)).drew = W0 := ⟨_, rfl⟩
  have k0 : W0.heap.size = w.heap.size + 4 := by rw [← hW0]; simp [k2]
  have b02 : Below W2.heap.size W2 W0 := by rw [← hW0]; exact ((Below.refl _ W2).alloc (Nat.le_refl _) _).drew
  have bn : Blk W0 (w.heap.size + 3) #[.slice ao es.length cap] 84 := by
    have := Blk.new W2 #[.slice ao es.length cap] 84
    rw [k2] at this
    rw [← hW0]
    exact this.drew
  have o0 := HOB.out.call b02
  have x0 := HBX.out.call b02
  have l0 : Below w.heap.size w W0 := HB2.out.trans (b02.mono (by omega))
  rw [hW0]
  clear hlk1 hlk2 e20 e21 d20 d21 f20 f21 c20 c21 c0 hmm hW1 hW0 k1 b02
  obtain ⟨fs, hfs⟩ := fe_list es HF.out
  have hfl : fs.length = es.length := by rw [← hfs]; simp
  have hFSx := Lib.hid hfs
  have bn' : Blk W0 (w.heap.size + 3) #[.slice ao fs.length cap] 84 := by rw [hfl]; exact bn
  refine wpIn_rangeFunc_ownH (F := Fence.wide) rfl (by omega) (gf := 89) (lb := #[.pointer (some ⟨w.heap.size + 3, 0, none⟩)]) rfl trivial (enters_of Tryz.func89 (by kernel_rfl) rfl)
    (back_stops Fence.wide (9 - 1) trivial rfl (by omega) (w.heap.size + 3) w.heap.size ao cap fs (by omega) W0 (by omega) bn' (by rw [hfs]; exact HES.out.below l0)) (fun h k => h.trans k) (kept_b (by omega) (by omega)) (Below.refl _ _) (fun _ => rfl)
    (fun pre W => ∃ ns, CollInv w (w.heap.size + 1) w.heap.size (w.heap.size + 2) W0.heap.size pre ns W) (fun _ _ _ => False)
    (coll_own _ _ _ _ _ _ (by omega) (by omega)) (fun _ _ _ _ _ hs _ _ => hs)
    ⟨[], o0, rfl, x0, by simp [blks], l0, Nat.le_refl _⟩
    (fun x a' W => ∃ Bx, Blk W Bx (ecs x.2.1) 83 ∧ a' = { tmps := #[.slice ao es.length cap, undef, .pointer none, .pointer (some ⟨w.heap.size + 1 + 1, 0, none⟩), undef, .pointer (some ⟨Bx, 0, none⟩), .slice ao es.length cap, u5, u6, u4, ptr (w.heap.size + 1), u1, u1, u1, u1, u1, u1, u1, u1, u1, u1, u2, u1, u1, u3, .slice ao es.length cap, .func (.func 89) #[] #[.pointer (some ⟨w.heap.size + 3, 0, none⟩)], .int .i64 x.1, .agg (ecs x.2.1), undef, undef, undef, undef, undef, undef, undef], defers := [] })
    (fun x a' _ X Y row hs hg hr => by obtain ⟨Bx, h1, h2⟩ := hs; exact ⟨Bx, h1.kept hg (fun r e => (hr r e).2), h2⟩)
    ?assign ?body ?done ?stop
  case assign =>
    clear bn bn' o0 x0 l0
    rintro l pre x W K ⟨ns, hi⟩ hK
    gi_wp2
    exact hK _ _ ((KeepsOthers.alloc _ _).from _) ⟨(Below.refl _ W).alloc hi.below.size _, heap_alloc_old _ _ (by have := hi.size; omega)⟩ ⟨ns, hi.obj.old _, hi.es, hi.box.old _, hi.low, hi.below.alloc hi.below.size _, by have := hi.size; simp; omega⟩ ⟨W.heap.size, Blk.new W _ _, rfl⟩
  case body =>
    clear bn bn' o0 x0 l0
    rintro l pre x a' W hl hr ⟨ns, hi⟩ ⟨Bx, bX, rfl⟩ hlt
    have c0 : W.cell? ⟨w.heap.size + 2, 0, none⟩ = some (.pointer (some ⟨w.heap.size + 1, 0, none⟩)) := hi.box.cell 0
    have le : (Ld 83 (.pointer (some ⟨Bx, 0, none⟩))).run Tryz.prog W.drew = .ok (.agg (ecs x.2.1)) W.drew := run_ldE (w := W.drew) (bX.range (r := []) (by simp))
    have hmx : Tryz.prog.follows .mixedOrders = true := by kernel_rfl
    have hins : Calls Tryz.prog 82 #[ptr (w.heap.size + 1), ptr (w.heap.size + 1), .agg (ecs x.2.1)] W.drew fun y w' => y = .returned (.tuple #[]) ∧ ∃ nd : Nd, nd.e = x.2.1 ∧ W.drew.heap.size ≤ nd.b ∧ Obj1 w' (w.heap.size + 1) w.heap.size (pre.length + 1) (nd :: ns) ∧ Turn W.drew w' (w.heap.size + 1) w.heap.size ns :=
      insert_ring (l := []) (r := ns) hi.obj.drew (by omega) x.2.2 (.inl rfl)
    have hload : ∀ w' : World, (w'.cell? ⟨w.heap.size + 2, 0, none⟩ = some (ptr (w.heap.size + 1)) ∧ enAt w' Bx 0 x.2.1) → (Instr.loadAt 152 (.pointer (some ⟨w.heap.size + 1 + 1, 0, none⟩))).run Tryz.prog w' = .ok (ptr (w.heap.size + 1)) w' := fun w' h => by
      have h1 : w'.cell? ⟨w.heap.size + 1 + 1, 0, none⟩ = some (ptr (w.heap.size + 1)) := h.1
      simp [go_sem, h1]
    have hloadE : ∀ w' : World, (w'.cell? ⟨w.heap.size + 2, 0, none⟩ = some (ptr (w.heap.size + 1)) ∧ enAt w' Bx 0 x.2.1) → (Instr.loadAt 83 (.pointer (some ⟨Bx, 0, none⟩))).run Tryz.prog w' = .ok (.agg (ecs x.2.1)) w' := fun w' h => run_ldE h.2
    gi_wp2
    refine region_in_round hmx (by kernel_rfl) (fun ⟨_, _, h⟩ => h) (S := fun w' => w'.cell? ⟨w.heap.size + 2, 0, none⟩ = some (ptr (w.heap.size + 1)) ∧ enAt w' Bx 0 x.2.1) ?_
    have hS : W.drew.cell? ⟨w.heap.size + 2, 0, none⟩ = some (ptr (w.heap.size + 1)) ∧ enAt W.drew Bx 0 x.2.1 := ⟨c0, bX.range (r := []) (by simp)⟩
    refine wpAnyH_take (i := 0) (v := ptr (w.heap.size + 1)) rfl (by kernel_rfl) (by kernel_rfl) (by kernel_rfl) (fun _ _ _ h => h) (yields_load rfl rfl rfl hload) hS ?_
    refine wpAnyH_take (i := 1) (v := ptr (w.heap.size + 1)) rfl (by kernel_rfl) (by kernel_rfl) (by kernel_rfl) (fun _ _ _ h => h) (yields_load rfl rfl rfl hload) hS ?_
    refine wpAnyH_take (i := 2) (v := ptr (w.heap.size + 1)) rfl (by kernel_rfl) (by kernel_rfl) (by kernel_rfl) (fun _ _ _ h => h) (yields_nil rfl rfl rfl) hS ?_
    refine wpAnyH_take (i := 3) (v := ptr (w.heap.size + 1)) rfl (by kernel_rfl) (by kernel_rfl) (by kernel_rfl) (fun _ _ _ h => h) (yields_run rfl (fun w' => by simp [go_sem, Act.eval, Act.put])) hS ?_
    refine wpAnyH_take (i := 4) (v := .agg (ecs x.2.1)) rfl (by kernel_rfl) (by kernel_rfl) (by kernel_rfl) (fun _ _ _ h => h) (yields_load rfl rfl rfl hloadE) hS ?_
    refine wpAnyH_all (rs := [5]) (by kernel_rfl) (by simp) ?_
    intro i hi5
    obtain rfl : i = 5 := by simpa using hi5
    refine call_last rfl rfl (f := 82) (args := #[ptr (w.heap.size + 1), ptr (w.heap.size + 1), .agg (ecs x.2.1)]) (by simp [go_sem, Act.eval, Act.put]) hins ?_
    rintro e w' ⟨rfl, nd, he, hb, ho, ht⟩
    refine ⟨_, rfl, ?_, wpAnyH_done (by kernel_rfl) ?_ _⟩
    · refine ⟨(ht.undrew.blk hi.box (hi.notin (by omega) (by omega)) (by omega)).cell 0, (ht.undrew.blk bX (hi.obj.ring.notblk bX (by decide) (by decide)) ?_).range (r := []) (by simp)⟩
      intro e
      obtain ⟨es', c', ho'⟩ := hi.obj.map.obj
      rw [← e, show W.heap[Bx]? = _ from bX] at ho'
      cases ho'
    · have h := hi.step (Bn := w.heap.size + 3) he hb ho ht.undrew (Nat.le_refl _) (by omega) (by omega) (by omega) (by omega)
      exact ⟨h.1, h.2.1, _, h.2.2⟩
  case done =>
    clear bn bn' o0 x0 l0
    rintro D ys W hD rfl ⟨ns, hi⟩ hK
    have c0 : W.cell? ⟨w.heap.size + 2, 0, none⟩ = some (.pointer (some ⟨w.heap.size + 1, 0, none⟩)) := hi.box.cell 0
    have hend := coll_end (fs := fs) (es := es) (o' := .deferred none) (D := D) hi hFSx hD hK (by omega) (by omega)
    gi_wp2
    refine ⟨by simp, .inl ⟨_, _, rfl, run_takeDeferred hK, ?_⟩⟩
    refine ⟨_, results_tmp rfl _ _ _, ?_⟩
    simp only [] at hend ⊢
    exact hend
  case stop =>
    rintro D c pre W _ _ h _
    exact h.elim
end Go.Proofs.YtoakiejpmcgdjaaGreatDoor.Hp
