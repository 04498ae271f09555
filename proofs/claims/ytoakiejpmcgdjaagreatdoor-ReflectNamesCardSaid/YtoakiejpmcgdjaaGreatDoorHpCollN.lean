/-
  collect: what a round leaves; collect at an empty list.
-/
import Derived.Test.YtoakiejpmcgdjaaGreatDoorHpLook
import Derived.Test.YtoakiejpmcgdjaaGreatDoorHpBack
namespace Go.Proofs.YtoakiejpmcgdjaaGreatDoor.Hp
open Go Go.RowKit Go.Maps Go.Shelf Go.Proofs.YtoakiejpmcgdjaaGreatDoor.Keys
set_option linter.unusedVariables false
set_option linter.unusedSimpArgs false
attribute [local go_sem] Oper.semAt_some
attribute [local go_sem ↓] ldE bxE bxN bdN bxH bdH alE stE
attribute [local irreducible] ecs ncs hcs
attribute [local go_sem] run_bx run_bdN run_bdH run_alE run_stE ecs_0 ecs_1 ncs_20 ncs_21 ncs_22 hcs_23 hcs_20 hcs_21

/-- What a loop's own bookkeeping leaves. -/
theorem grown_same {w w' : World} {row : Option Nat} {b : Nat} {o : Obj} (hg : w.grownBy w' row) (hr : ∀ r, row = some r → ∃ o : Obj, w.heap[r]? = some o ∧ o.isCells = false) (hb : w.heap[b]? = some o) (ho : o.isCells = true) : w'.heap[b]? = w.heap[b]? := by
  refine hg.block b (Array.getElem?_eq_some_iff.1 hb).1 fun e => ?_
  obtain ⟨o', ho', hc⟩ := hr b e.symm
  rw [hb] at ho'
  cases ho'
  rw [ho] at hc
  cases hc
theorem Ring.grown {w w' : World} {row : Option Nat} {pb mb : Nat} {ns : List Nd} (h : Ring w pb mb ns) (hg : w.grownBy w' row) (hr : ∀ r, row = some r → ∃ o : Obj, w.heap[r]? = some o ∧ o.isCells = false) : Ring w' pb mb ns := h.same fun b hb => by
  obtain ⟨cs, t, hb, _⟩ := h.cells b hb
  exact grown_same hg hr hb rfl
theorem Blk.kept {w w' : World} {row : Option Nat} {b : Nat} {cs : Array Value} {t : TypeId} (h : Blk w b cs t) (hg : w.grownBy w' row) (hr : ∀ r, row = some r → ∃ o : Obj, w.heap[r]? = some o ∧ o.isCells = false) : Blk w' b cs t := (grown_same hg hr h rfl).trans h
theorem MapIs.grown {w w' : World} {row : Option Nat} {m n B : Nat} {f : KV → Option Nat} (h : MapIs w m n f) (hg : w.grownBy w' row) (hr : ∀ r, row = some r → B ≤ r) (hm : m < B) : MapIs w' m n f :=
  h.same (hg.block m h.lt fun e => by have := hr m e.symm; omega)
/-- Between two rounds of collect. -/
structure CollInv (w0 : World) (pb mb Bp B0 : Nat) (pre : List (Int × FE)) (ns : List Nd) (W : World) : Prop where
  obj : Obj1 W pb mb pre.length ns
  es : ns.map (·.e) = (pre.map (·.2.1)).reverse
  box : Blk W Bp #[ptr pb] 152
  low : ∀ b ∈ blks pb ns, b = pb ∨ B0 ≤ b
  below : Below w0.heap.size w0 W
  size : B0 ≤ W.heap.size
theorem coll_own (w0 : World) (pb mb Bp B0 B : Nat) (hB : w0.heap.size ≤ B) (hm : mb < B) : OwnFrom B (fun pre W => ∃ ns, CollInv w0 pb mb Bp B0 pre ns W) := by
  rintro pre W W' row ⟨ns, ⟨⟨h1, h2⟩, h3, h4, h5, h6, h7⟩⟩ hg hr
  have hr2 := fun r e => (hr r e).2
  exact ⟨ns, ⟨h1.grown hg hr2, h2.grown hg (fun r e => (hr r e).1) hm⟩, h3, h4.kept hg hr2, h5, h6.grown hg h6.size (fun k e => Nat.le_trans hB (hr k e).1), Nat.le_trans h7 hg.size⟩
theorem CollInv.notin {w0 W : World} {pb mb Bp B0 b : Nat} {pre : List (Int × FE)} {ns : List Nd} (h : CollInv w0 pb mb Bp B0 pre ns W) (h1 : b ≠ pb) (h2 : b < B0) : b ∉ blks pb ns := fun hm => by
  rcases h.low b hm with e | e
  · exact h1 e
  · omega
/-- A round of collect. -/
theorem CollInv.step {w0 W w' : World} {pb mb Bp Bn B0 : Nat} {pre : List (Int × FE)} {ns : List Nd} {x : Int × FE} {nd : Nd} (h : CollInv w0 pb mb Bp B0 pre ns W) (he : nd.e = x.2.1) (hb : W.heap.size ≤ nd.b) (ho : Obj1 w' pb mb (pre.length + 1) (nd :: ns)) (ht : Turn W w' pb mb ns)
    (c1 : w0.heap.size ≤ mb) (c2 : mb < pb) (c3 : pb < Bp) (c4 : Bp < Bn) (c5 : Bn < B0) :
    KeepsFrom B0 W w' ∧ Kept w0.heap.size Bn W w' ∧ CollInv w0 pb mb Bp B0 (pre ++ [x]) (nd :: ns) w' := by
  have hlow : ∀ b ∈ blks pb ns, w0.heap.size ≤ b := fun b hb => by
    rcases h.low b hb with e | e <;> omega
  have hsz := h.size
  have hbel := ht.below (B := w0.heap.size) hlow c1 (by omega)
  refine ⟨⟨ht.fr.size, fun k o hB hk hc => ?_⟩, ⟨hbel, ht.same Bn (by omega) (h.notin (by omega) (by omega)) (by omega)⟩, ?_, ?_, ?_, ?_, h.below.trans hbel, Nat.le_trans h.size ht.fr.size⟩
  · refine (ht.same k (Array.getElem?_eq_some_iff.1 hk).1 (fun hm => ?_) (by omega)).trans hk
    obtain ⟨cs, t, hb, _⟩ := h.obj.ring.cells k hm
    rw [show W.heap[k]? = _ from hb] at hk
    cases hk
    cases hc
  · rw [List.length_append]
    exact ho
  · simp [he, h.es]
  · exact ht.blk h.box (h.notin (by omega) (by omega)) (by omega)
  · intro b hbm
    rcases List.mem_cons.1 hbm with e | hbm
    · exact .inl e
    · rcases List.mem_cons.1 hbm with e | hbm
      · right
        have e' : b = nd.b := e
        omega
      · exact h.low b (List.mem_cons_of_mem _ hbm)
theorem Turn.undrew {w w' : World} {pb mb : Nat} {ns : List Nd} (h : Turn w.drew w' pb mb ns) : Turn w w' pb mb ns := ⟨⟨h.fr.os, h.fr.tape, h.fr.output, h.fr.size⟩, h.same⟩
/-- How collect ends. -/
def CollPost (w : World) (es : List En) (y : Ending) (w' : World) : Prop := ∃ pb mb ns, y = .returned (ptr pb) ∧ Obj1 w' pb mb es.length ns ∧ ns.map (·.e) = es ∧ (∀ b ∈ blks pb ns, w.heap.size ≤ b) ∧ w.heap.size ≤ mb ∧ Below w.heap.size w w'
theorem coll_end {w W : World} {B0 D : Nat} {o' : Obj} {fs : List FE} {es : List En} {ns : List Nd} (hi : CollInv w (w.heap.size + 1) w.heap.size (w.heap.size + 2) B0 (back fs fs.length) ns W) (hfs : Hid (fs.map (·.1) = es)) (hD : B0 ≤ D) (hK : W.heap[D]? = some (.deferred (some []))) (h1 : w.heap.size + 4 ≤ B0) (h2 : w.heap.size ≤ B0) :
    CollPost w es (.returned (.pointer (some ⟨w.heap.size + 1, 0, none⟩))) (W.putObj D o') := by
  obtain ⟨ns', hi'⟩ := (coll_own w (w.heap.size + 1) w.heap.size (w.heap.size + 2) B0 B0 h2 (by omega)).putObj o' ⟨ns, hi⟩ hD hK rfl
  have e1 : fs.length = es.length := by rw [← hfs.out]; simp
  have e2 : ns'.map (·.e) = es := by
    rw [hi'.es]
    have := back_all fs
    rw [show (back fs fs.length).map (·.2.1) = ((back fs fs.length).map (·.2)).map (·.1) by simp, this, ← hfs.out]
    simp
  refine ⟨_, _, ns', rfl, ?_, e2, fun b hb => ?_, Nat.le_refl _, hi'.below⟩
  · have := hi'.obj
    rw [back_length, e1] at this
    exact this
  · rcases hi'.low b hb with e | e <;> omega
theorem make_mapP (n : Int) (w : World) : (Instr.makeMap 159 (some (.int .i64 n))).run Tryz.prog w = .ok (.map (some w.heap.size)) (w.alloc (.map #[] 0)) := make_map Tryz.underlying159 .i64 n w

set_option maxRecDepth 100000 in
set_option maxHeartbeats 4000000 in
theorem collect_zero (ao : Option Addr) (cap : Nat) (es : List En) (w : World) (hzero : Hid (es = [])) (hlen : es.length ≤ 100) (hes : EsAt w.heap.size ao es w) (hf : ∀ e ∈ es, Fine (ekey e)) :
    Calls Tryz.prog 71 #[.slice ao es.length cap] w (CollPost w es) := by
  obtain ⟨W1, hW1⟩ : ∃ W1, ((w.alloc (.map #[] 0)).alloc (.cells (hcs nilP nilP w.heap.size) 164)).alloc (.cells #[ptr (w.heap.size + 1)] 152) = W1 := ⟨_, rfl⟩
  have k1 : W1.heap.size = w.heap.size + 3 := by rw [← hW1]; simp
  have bp : Blk W1 (w.heap.size + 1) (hcs nilP nilP w.heap.size) 164 := by
    have := (Blk.new (w.alloc (.map #[] 0)) (hcs nilP nilP w.heap.size) 164).old (.cells #[ptr (w.heap.size + 1)] 152)
    rw [hW1, World.size_alloc] at this
    exact this
  have bx : Blk W1 (w.heap.size + 2) #[ptr (w.heap.size + 1)] 152 := by
    have := Blk.new ((w.alloc (.map #[] 0)).alloc (.cells (hcs nilP nilP w.heap.size) 164)) #[ptr (w.heap.size + 1)] 152
    rw [hW1, World.size_alloc, World.size_alloc] at this
    exact this
  have hm1 : MapIs W1 w.heap.size 0 (look []) := by
    rw [← hW1]
    exact ((MapIs.made w).old _).old _
  have hb1 : Below w.heap.size w W1 := by rw [← hW1]; exact (((Below.refl _ w).alloc (Nat.le_refl _) _).alloc (by simp) _).alloc (by simp; omega) _
  have c0 : W1.cell? ⟨w.heap.size + 2, 0, none⟩ = some (.pointer (some ⟨w.heap.size + 1, 0, none⟩)) := bx.cell 0
  have c20 : W1.cell? ⟨w.heap.size + 1, 20, none⟩ = some (.pointer none) := (bp.cell 20).trans (hcs_20 _ _ _)
  have c21 : W1.cell? ⟨w.heap.size + 1, 21, none⟩ = some (.pointer none) := (bp.cell 21).trans (hcs_21 _ _ _)
  have f20 := bp.frozen 20
  have f21 := bp.frozen 21
  have d20 : (W1.setCell ⟨w.heap.size + 1, 21, none⟩ (.pointer (some ⟨w.heap.size + 1, 0, none⟩))).cell? ⟨w.heap.size + 1, 20, none⟩ = some (.pointer none) := by rw [World.cell?_setCell_other _ _ _ _ (by simp)]; exact c20
  have d21 : (W1.setCell ⟨w.heap.size + 1, 20, none⟩ (.pointer (some ⟨w.heap.size + 1, 0, none⟩))).cell? ⟨w.heap.size + 1, 21, none⟩ = some (.pointer none) := by rw [World.cell?_setCell_other _ _ _ _ (by simp)]; exact c21
  have e20 : (W1.setCell ⟨w.heap.size + 1, 20, none⟩ (.pointer (some ⟨w.heap.size + 1, 0, none⟩))).cell? ⟨w.heap.size + 2, 0, none⟩ = some (.pointer (some ⟨w.heap.size + 1, 0, none⟩)) := by rw [World.cell?_setCell_other _ _ _ _ (by simp)]; exact c0
  have e21 : (W1.setCell ⟨w.heap.size + 1, 21, none⟩ (.pointer (some ⟨w.heap.size + 1, 0, none⟩))).cell? ⟨w.heap.size + 2, 0, none⟩ = some (.pointer (some ⟨w.heap.size + 1, 0, none⟩)) := by rw [World.cell?_setCell_other _ _ _ _ (by simp)]; exact c0
  obtain ⟨W2, hW2⟩ : ∃ W2, link W1 (w.heap.size + 1) (w.heap.size + 1) (ptr (w.heap.size + 1)) (ptr (w.heap.size + 1)) = W2 := ⟨_, rfl⟩
  have hlk1 : (W1.setCell ⟨w.heap.size + 1, 21, none⟩ (.pointer (some ⟨w.heap.size + 1, 0, none⟩))).setCell ⟨w.heap.size + 1, 20, none⟩ (.pointer (some ⟨w.heap.size + 1, 0, none⟩)) = W2 := hW2
  have hlk2 : (W1.setCell ⟨w.heap.size + 1, 20, none⟩ (.pointer (some ⟨w.heap.size + 1, 0, none⟩))).setCell ⟨w.heap.size + 1, 21, none⟩ (.pointer (some ⟨w.heap.size + 1, 0, none⟩)) = W2 := by rw [setCell_comm]; exact hW2
  have k2 : W2.heap.size = w.heap.size + 3 := by rw [← hW2, link_size, k1]
  have hob : Obj1 W2 (w.heap.size + 1) w.heap.size 0 [] := by
    refine ⟨⟨?_, trivial, by simp [blks]⟩, ?_⟩
    · have := (bp.set 21 (ptr (w.heap.size + 1))).set 20 (ptr (w.heap.size + 1))
      rw [hcs_set21, hcs_set20] at this
      rw [← hW2]
      exact this
    · rw [← hW2]
      exact hm1.same (link_other _ _ _ _ _ _ (by omega) (by omega))
  have bx2 : Blk W2 (w.heap.size + 2) #[ptr (w.heap.size + 1)] 152 := by
    rw [← hW2]
    exact (link_other _ _ _ _ _ _ (by omega) (by omega)).trans bx
  have hb2 : Below w.heap.size w W2 := by rw [← hW2]; exact (hb1.setCell (p := ⟨w.heap.size + 1, 21, none⟩) (by simp) _).setCell (p := ⟨w.heap.size + 1, 20, none⟩) (by simp) _
  have HOB := Lib.hid hob
  have HBX := Lib.hid bx2
  have HB2 := Lib.hid hb2
  have HES := Lib.hid hes
  have HF := Lib.hid hf
  clear hob bx2 hb2 hes hf hW2 hm1 bp bx hb1
  have hmm := make_mapP
  refine (callsIn_wide (n := 9)).1 ?_
  refine callsIn_of_wp_marks Tryz.func71 rfl trivial ?_ rfl
  simp only [Tryz.ntmps71, List.size_toArray, List.length_cons, List.length_nil, Nat.reduceAdd, Nat.reduceSub, Array.replicate_succ, Array.replicate_zero, List.push_toArray, List.append_toArray, List.nil_append, List.cons_append]
  gi_wp2
  gi_region
  all_goals gi_wp2_with (refine ⟨trivial, ?_⟩; gi_at_call 81; refine (callsIn_wide.2 (back_any _ _ _ _)).mono ?_; rintro e w' ⟨rfl, rfl⟩)
  obtain ⟨W0, hW0⟩ : ∃ W0, (W2.alloc (.cells #[.slice ao es.length cap] 84)).drew = W0 := ⟨_, rfl⟩
  have k0 : W0.heap.size = w.heap.size + 4 := by rw [← hW0]; simp [k2]
  have b02 : Below W2.heap.size W2 W0 := by rw [← hW0]; exact ((Below.refl _ W2).alloc (Nat.le_refl _) _).drew
  have bn : Blk W0 (w.heap.size + 3) #[.slice ao es.length cap] 84 := by
    have := Blk.new W2 #[.slice ao es.length cap] 84
    rw [k2] at this
    rw [← hW0]
    exact this.drew
  have o0 := HOB.out.call b02
  have x0 := HBX.out.call b02
  have l0 : Below w.heap.size w W0 := HB2.out.trans (b02.mono (by omega))
  rw [hW0]
  clear hlk1 hlk2 e20 e21 d20 d21 f20 f21 c20 c21 c0 hmm hW1 hW0 k1 b02
  obtain ⟨fs, hfs⟩ := fe_list es HF.out
  have hfl : fs.length = es.length := by rw [← hfs]; simp
  have hFSx := Lib.hid hfs
  have bn' : Blk W0 (w.heap.size + 3) #[.slice ao fs.length cap] 84 := by rw [hfl]; exact bn
  refine wpIn_rangeFunc_ownH (F := Fence.wide) rfl (by omega) (gf := 89) (lb := #[.pointer (some ⟨w.heap.size + 3, 0, none⟩)]) rfl trivial (enters_of Tryz.func89 (by kernel_rfl) rfl)
    (back_stops Fence.wide (9 - 1) trivial rfl (by omega) (w.heap.size + 3) w.heap.size ao cap fs (by omega) W0 (by omega) bn' (by rw [hfs]; exact HES.out.below l0)) (fun h k => h.trans k) (kept_b (by omega) (by omega)) (Below.refl _ _) (fun _ => rfl)
    (fun pre W => ∃ ns, CollInv w (w.heap.size + 1) w.heap.size (w.heap.size + 2) W0.heap.size pre ns W) (fun _ _ _ => False)
    (coll_own _ _ _ _ _ _ (by omega) (by omega)) (fun _ _ _ _ _ hs _ _ => hs)
    ⟨[], o0, rfl, x0, by simp [blks], l0, Nat.le_refl _⟩
    (fun x a' W => ∃ Bx, Blk W Bx (ecs x.2.1) 83 ∧ a' = { tmps := #[.slice ao es.length cap, undef, .pointer none, .pointer (some ⟨w.heap.size + 1 + 1, 0, none⟩), undef, .pointer (some ⟨Bx, 0, none⟩), .slice ao es.length cap, .int .i64 es.length, .map (some w.heap.size), .agg (hcs nilP nilP w.heap.size), ptr (w.heap.size + 1), .pointer (some ⟨w.heap.size + 1, 0, none⟩), .pointer (some ⟨w.heap.size + 1, 0, none⟩), .pointer (some ⟨w.heap.size + 1, 0, none⟩), .pointer (some ⟨w.heap.size + 1, 0, none⟩), .pointer (some ⟨w.heap.size + 1, 0, none⟩), .pointer (some ⟨w.heap.size + 1, 0, none⟩), .pointer (some ⟨w.heap.size + 1, 0, none⟩), .pointer (some ⟨w.heap.size + 1, 0, none⟩), .pointer (some ⟨w.heap.size + 1, 0, none⟩), .pointer (some ⟨w.heap.size + 1, 0, none⟩), .pointer (some ⟨w.heap.size + 1, 20, none⟩), .pointer (some ⟨w.heap.size + 1, 0, none⟩), .pointer (some ⟨w.heap.size + 1, 0, none⟩), .pointer (some ⟨w.heap.size + 1, 21, none⟩), .slice ao es.length cap, .func (.func 89) #[] #[.pointer (some ⟨w.heap.size + 3, 0, none⟩)], .int .i64 x.1, .agg (ecs x.2.1), undef, undef, undef, undef, undef, undef, undef], defers := [] })
    (fun x a' _ X Y row hs hg hr => by obtain ⟨Bx, h1, h2⟩ := hs; exact ⟨Bx, h1.kept hg (fun r e => (hr r e).2), h2⟩)
    ?assign ?body ?done ?stop
  case assign =>
    clear bn bn' o0 x0 l0
    rintro l pre x W K ⟨ns, hi⟩ hK
    gi_wp2
    exact hK _ _ ((KeepsOthers.alloc _ _).from _) ⟨(Below.refl _ W).alloc hi.below.size _, heap_alloc_old _ _ (by have := hi.size; omega)⟩ ⟨ns, hi.obj.old _, hi.es, hi.box.old _, hi.low, hi.below.alloc hi.below.size _, by have := hi.size; simp; omega⟩ ⟨W.heap.size, Blk.new W _ _, rfl⟩
  case body =>
    clear bn bn' o0 x0 l0
    rintro l pre x a' W hl hr ⟨ns, hi⟩ ⟨Bx, bX, rfl⟩ hlt
    rw [← hFSx.out] at hzero
    exact absurd hlt (by rw [List.map_eq_nil_iff.1 hzero.out]; simp)
  case done =>
    clear bn bn' o0 x0 l0
    rintro D ys W hD rfl ⟨ns, hi⟩ hK
    have c0 : W.cell? ⟨w.heap.size + 2, 0, none⟩ = some (.pointer (some ⟨w.heap.size + 1, 0, none⟩)) := hi.box.cell 0
    have hend := coll_end (fs := fs) (es := es) (o' := .deferred none) (D := D) hi hFSx hD hK (by omega) (by omega)
    gi_wp2
    refine ⟨by simp, .inl ⟨_, _, rfl, run_takeDeferred hK, ?_⟩⟩
    refine ⟨_, results_tmp rfl _ _ _, ?_⟩
    simp only [] at hend ⊢
    exact hend
  case stop =>
    rintro D c pre W _ _ h _
    exact h.elim
theorem collect_nil (w : World) : Calls Tryz.prog 71 #[.slice none 0 0] w (CollPost w []) := collect_zero none 0 [] w rfl (by simp) (fun j e h => by simp at h) (fun e h => by simp at h)
end Go.Proofs.YtoakiejpmcgdjaaGreatDoor.Hp
