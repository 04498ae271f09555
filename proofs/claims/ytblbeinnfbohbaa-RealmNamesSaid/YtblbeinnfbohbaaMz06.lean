/-
  Texts of this seat in build order: HpCollN, HpSeq, HpEnt, HpHeap, HpStore.
-/
import Derived.Test.YtblbeinnfbohbaaMz05
import Derived.Laws.MakeOwn
import Derived.Deep.RegionWith
import Derived.OneCell
import Derived.Deep.Onto
/-
  collect: what a round leaves; collect at an empty list.
-/
namespace Go.Proofs.Ytblbeinnfbohbaa.Hp
open Go Go.RowKit Go.Maps Go.Shelf Go.Proofs.Ytblbeinnfbohbaa.Keys
open Go.Proofs.Ytblbeinnfbohbaa.Des (Vl Ds zeroV zeroD dcs dcs_size dcs_one)
open Go.Proofs.Ytblbeinnfbohbaa.Arrs (En ecs ecs_0 ecs_1 ecs_10 ecs_size ecs_list ecs_one ecs_one')
set_option linter.unusedVariables false
set_option linter.unusedSimpArgs false
attribute [local go_sem] Oper.semAt_some

attribute [local go_sem ↓] ldE bxE bxN bdN bxH bdH alE stE

attribute [local irreducible] ecs ncs hcs

attribute [local go_sem] run_bx run_bdN run_bdH run_alE run_stE ecs_0 ecs_1 ncs_20 ncs_21 ncs_22 hcs_23 hcs_20 hcs_21

/-- What a loop's own bookkeeping leaves. -/
theorem grown_same {w w' : World} {row : Option Nat} {b : Nat} {o : Obj} (hg : w.grownBy w' row) (hr : ∀ r, row = some r → ∃ o : Obj, w.heap[r]? = some o ∧ o.isCells = false) (hb : w.heap[b]? = some o) (ho : o.isCells = true) : w'.heap[b]? = w.heap[b]? := by
  refine hg.block b (Array.getElem?_eq_some_iff.1 hb).1 fun e => ?_
  obtain ⟨o', ho', hc⟩ := hr b e.symm
  rw [hb] at ho'
  cases ho'
  rw [ho] at hc
  cases hc
theorem Ring.grown {w w' : World} {row : Option Nat} {pb mb : Nat} {ns : List Nd} (h : Ring w pb mb ns) (hg : w.grownBy w' row) (hr : ∀ r, row = some r → ∃ o : Obj, w.heap[r]? = some o ∧ o.isCells = false) : Ring w' pb mb ns := h.same fun b hb => by
  obtain ⟨cs, t, hb, _⟩ := h.cells b hb
  exact grown_same hg hr hb rfl
theorem Blk.kept {w w' : World} {row : Option Nat} {b : Nat} {cs : Array Value} {t : TypeId} (h : Blk w b cs t) (hg : w.grownBy w' row) (hr : ∀ r, row = some r → ∃ o : Obj, w.heap[r]? = some o ∧ o.isCells = false) : Blk w' b cs t := (grown_same hg hr h rfl).trans h
theorem MapIs.grown {w w' : World} {row : Option Nat} {m n B : Nat} {f : KV → Option Nat} (h : MapIs w m n f) (hg : w.grownBy w' row) (hr : ∀ r, row = some r → B ≤ r) (hm : m < B) : MapIs w' m n f :=
  h.same (hg.block m h.lt fun e => by have := hr m e.symm; omega)
/-- Between two rounds of collect. -/
structure CollInv (w0 : World) (pb mb Bp B0 : Nat) (pre : List (Int × FE)) (ns : List Nd) (W : World) : Prop where
  obj : Obj1 W pb mb pre.length ns
  es : ns.map (·.e) = (pre.map (·.2.1)).reverse
  box : Blk W Bp #[ptr pb] 100
  low : ∀ b ∈ blks pb ns, b = pb ∨ B0 ≤ b
  below : Below w0.heap.size w0 W
  size : B0 ≤ W.heap.size
  chain : Chain ns
theorem coll_own (w0 : World) (pb mb Bp B0 B : Nat) (hB : w0.heap.size ≤ B) (hm : mb < B) : OwnFrom B (fun pre W => ∃ ns, CollInv w0 pb mb Bp B0 pre ns W) := by
  rintro pre W W' row ⟨ns, ⟨⟨h1, h2⟩, h3, h4, h5, h6, h7, h8⟩⟩ hg hr
  have hr2 := fun r e => (hr r e).2
  exact ⟨ns, ⟨h1.grown hg hr2, h2.grown hg (fun r e => (hr r e).1) hm⟩, h3, h4.kept hg hr2, h5, h6.grown hg h6.size (fun k e => Nat.le_trans hB (hr k e).1), Nat.le_trans h7 hg.size, h8⟩
theorem CollInv.notin {w0 W : World} {pb mb Bp B0 b : Nat} {pre : List (Int × FE)} {ns : List Nd} (h : CollInv w0 pb mb Bp B0 pre ns W) (h1 : b ≠ pb) (h2 : b < B0) : b ∉ blks pb ns := fun hm => by
  rcases h.low b hm with e | e
  · exact h1 e
  · omega
/-- A round of collect. -/
theorem CollInv.step {w0 W w' : World} {pb mb Bp Bn B0 : Nat} {pre : List (Int × FE)} {ns : List Nd} {x : Int × FE} {nd : Nd} (h : CollInv w0 pb mb Bp B0 pre ns W) (he : nd.e = x.2.1) (hb : W.heap.size ≤ nd.b) (ho : Obj1 w' pb mb (pre.length + 1) (nd :: ns)) (ht : Turn W w' pb mb ns) (ha : nd.a = pto (look ns (ekey x.2.1)))
    (c1 : w0.heap.size ≤ mb) (c2 : mb < pb) (c3 : pb < Bp) (c4 : Bp < Bn) (c5 : Bn < B0) :
    KeepsFrom B0 W w' ∧ Kept w0.heap.size Bn W w' ∧ CollInv w0 pb mb Bp B0 (pre ++ [x]) (nd :: ns) w' := by
  have hlow : ∀ b ∈ blks pb ns, w0.heap.size ≤ b := fun b hb => by
    rcases h.low b hb with e | e <;> omega
  have hsz := h.size
  have hbel := ht.below (B := w0.heap.size) hlow c1 (by omega)
  refine ⟨⟨ht.fr.size, fun k o hB hk hc => ?_⟩, ⟨hbel, ht.same Bn (by omega) (h.notin (by omega) (by omega)) (by omega)⟩, ?_, ?_, ?_, ?_, h.below.trans hbel, Nat.le_trans h.size ht.fr.size, h.chain.cons fun hn => by
    rw [ha, look_none.2 (fun n hn' => by rw [← he]; exact hn n hn')]
    rfl⟩
  · refine (ht.same k (Array.getElem?_eq_some_iff.1 hk).1 (fun hm => ?_) (by omega)).trans hk
    obtain ⟨cs, t, hb, _⟩ := h.obj.ring.cells k hm
    rw [show W.heap[k]? = _ from hb] at hk
    cases hk
    cases hc
  · rw [List.length_append]
    exact ho
  · simp [he, h.es]
  · exact ht.blk h.box (h.notin (by omega) (by omega)) (by omega)
  · intro b hbm
    rcases List.mem_cons.1 hbm with e | hbm
    · exact .inl e
    · rcases List.mem_cons.1 hbm with e | hbm
      · right
        have e' : b = nd.b := e
        omega
      · exact h.low b (List.mem_cons_of_mem _ hbm)
theorem Turn.undrew {w w' : World} {pb mb : Nat} {ns : List Nd} (h : Turn w.drew w' pb mb ns) : Turn w w' pb mb ns := ⟨⟨h.fr.os, h.fr.tape, h.fr.output, h.fr.size⟩, h.same⟩
/-- How collect ends. -/
def CollPost (w : World) (es : List En) (y : Ending) (w' : World) : Prop := ∃ pb mb ns, y = .returned (ptr pb) ∧ Obj1 w' pb mb es.length ns ∧ ns.map (·.e) = es ∧ (∀ b ∈ blks pb ns, w.heap.size ≤ b) ∧ w.heap.size ≤ mb ∧ Below w.heap.size w w' ∧ Chain ns
theorem coll_end {w W : World} {B0 D : Nat} {o' : Obj} {fs : List FE} {es : List En} {ns : List Nd} (hi : CollInv w (w.heap.size + 1) w.heap.size (w.heap.size + 2) B0 (back fs fs.length) ns W) (hfs : Hid (fs.map (·.1) = es)) (hD : B0 ≤ D) (hK : W.heap[D]? = some (.deferred (some []))) (h1 : w.heap.size + 4 ≤ B0) (h2 : w.heap.size ≤ B0) :
    CollPost w es (.returned (.pointer (some ⟨w.heap.size + 1, 0, none⟩))) (W.putObj D o') := by
  obtain ⟨ns', hi'⟩ := (coll_own w (w.heap.size + 1) w.heap.size (w.heap.size + 2) B0 B0 h2 (by omega)).putObj o' ⟨ns, hi⟩ hD hK rfl
  have e1 : fs.length = es.length := by rw [← hfs.out]; simp
  have e2 : ns'.map (·.e) = es := by
    rw [hi'.es]
    have := back_all fs
    rw [show (back fs fs.length).map (·.2.1) = ((back fs fs.length).map (·.2)).map (·.1) by simp, this, ← hfs.out]
    simp
  refine ⟨_, _, ns', rfl, ?_, e2, fun b hb => ?_, Nat.le_refl _, hi'.below, hi'.chain⟩
  · have := hi'.obj
    rw [back_length, e1] at this
    exact this
  · rcases hi'.low b hb with e | e <;> omega
theorem make_mapP (n : Int) (w : World) : (Instr.makeMap 128 (some (.int .i64 n))).run Try.prog w = .ok (.map (some w.heap.size)) (w.alloc (.map #[] 0)) := make_map Try.underlying128 .i64 n w

set_option maxRecDepth 100000 in
set_option maxHeartbeats 4000000 in
theorem collect_zero (ao : Option Addr) (cap : Nat) (es : List En) (w : World) (hzero : Hid (es = [])) (hlen : es.length ≤ 1000000) (hes : EsAt w.heap.size ao es w) (hf : ∀ e ∈ es, Fine (ekey e)) :
    Calls Try.prog 45 #[.slice ao es.length cap] w (CollPost w es) := by
  obtain ⟨W1, hW1⟩ : ∃ W1, ((w.alloc (.map #[] 0)).alloc (.cells (hcs nilP nilP w.heap.size) 130)).alloc (.cells #[ptr (w.heap.size + 1)] 100) = W1 := ⟨_, rfl⟩
  have k1 : W1.heap.size = w.heap.size + 3 := by rw [← hW1]; simp
  have bp : Blk W1 (w.heap.size + 1) (hcs nilP nilP w.heap.size) 130 := by
    have := (Blk.new (w.alloc (.map #[] 0)) (hcs nilP nilP w.heap.size) 130).old (.cells #[ptr (w.heap.size + 1)] 100)
    rw [hW1, World.size_alloc] at this
    exact this
  have bx : Blk W1 (w.heap.size + 2) #[ptr (w.heap.size + 1)] 100 := by
    have := Blk.new ((w.alloc (.map #[] 0)).alloc (.cells (hcs nilP nilP w.heap.size) 130)) #[ptr (w.heap.size + 1)] 100
    rw [hW1, World.size_alloc, World.size_alloc] at this
    exact this
  have hm1 : MapIs W1 w.heap.size 0 (look []) := by
    rw [← hW1]
    exact ((MapIs.made w).old _).old _
  have hb1 : Below w.heap.size w W1 := by rw [← hW1]; exact (((Below.refl _ w).alloc (Nat.le_refl _) _).alloc (by simp) _).alloc (by simp; omega) _
  have c0 : W1.cell? ⟨w.heap.size + 2, 0, none⟩ = some (.pointer (some ⟨w.heap.size + 1, 0, none⟩)) := bx.cell 0
  have c20 : W1.cell? ⟨w.heap.size + 1, 20, none⟩ = some (.pointer none) := (bp.cell 20).trans (hcs_20 _ _ _)
  have c21 : W1.cell? ⟨w.heap.size + 1, 21, none⟩ = some (.pointer none) := (bp.cell 21).trans (hcs_21 _ _ _)
  have f20 := bp.frozen 20
  have f21 := bp.frozen 21
  have d20 : (W1.setCell ⟨w.heap.size + 1, 21, none⟩ (.pointer (some ⟨w.heap.size + 1, 0, none⟩))).cell? ⟨w.heap.size + 1, 20, none⟩ = some (.pointer none) := by rw [World.cell?_setCell_other _ _ _ _ (by simp)]; exact c20
  have d21 : (W1.setCell ⟨w.heap.size + 1, 20, none⟩ (.pointer (some ⟨w.heap.size + 1, 0, none⟩))).cell? ⟨w.heap.size + 1, 21, none⟩ = some (.pointer none) := by rw [World.cell?_setCell_other _ _ _ _ (by simp)]; exact c21
  have e20 : (W1.setCell ⟨w.heap.size + 1, 20, none⟩ (.pointer (some ⟨w.heap.size + 1, 0, none⟩))).cell? ⟨w.heap.size + 2, 0, none⟩ = some (.pointer (some ⟨w.heap.size + 1, 0, none⟩)) := by rw [World.cell?_setCell_other _ _ _ _ (by simp)]; exact c0
  have e21 : (W1.setCell ⟨w.heap.size + 1, 21, none⟩ (.pointer (some ⟨w.heap.size + 1, 0, none⟩))).cell? ⟨w.heap.size + 2, 0, none⟩ = some (.pointer (some ⟨w.heap.size + 1, 0, none⟩)) := by rw [World.cell?_setCell_other _ _ _ _ (by simp)]; exact c0
  obtain ⟨W2, hW2⟩ : ∃ W2, link W1 (w.heap.size + 1) (w.heap.size + 1) (ptr (w.heap.size + 1)) (ptr (w.heap.size + 1)) = W2 := ⟨_, rfl⟩
  have hlk1 : (W1.setCell ⟨w.heap.size + 1, 21, none⟩ (.pointer (some ⟨w.heap.size + 1, 0, none⟩))).setCell ⟨w.heap.size + 1, 20, none⟩ (.pointer (some ⟨w.heap.size + 1, 0, none⟩)) = W2 := hW2
  have hlk2 : (W1.setCell ⟨w.heap.size + 1, 20, none⟩ (.pointer (some ⟨w.heap.size + 1, 0, none⟩))).setCell ⟨w.heap.size + 1, 21, none⟩ (.pointer (some ⟨w.heap.size + 1, 0, none⟩)) = W2 := by rw [setCell_comm]; exact hW2
  have k2 : W2.heap.size = w.heap.size + 3 := by rw [← hW2, link_size, k1]
  have hob : Obj1 W2 (w.heap.size + 1) w.heap.size 0 [] := by
    refine ⟨⟨?_, trivial, by simp [blks]⟩, ?_⟩
    · have := (bp.set 21 (ptr (w.heap.size + 1))).set 20 (ptr (w.heap.size + 1))
      rw [hcs_set21, hcs_set20] at this
      rw [← hW2]
      exact this
    · rw [← hW2]
      exact hm1.same (link_other _ _ _ _ _ _ (by omega) (by omega))
  have bx2 : Blk W2 (w.heap.size + 2) #[ptr (w.heap.size + 1)] 100 := by
    rw [← hW2]
    exact (link_other _ _ _ _ _ _ (by omega) (by omega)).trans bx
  have hb2 : Below w.heap.size w W2 := by rw [← hW2]; exact (hb1.setCell (p := ⟨w.heap.size + 1, 21, none⟩) (by simp) _).setCell (p := ⟨w.heap.size + 1, 20, none⟩) (by simp) _
  have HOB := Lib.hid hob
  have HBX := Lib.hid bx2
  have HB2 := Lib.hid hb2
  have HES := Lib.hid hes
  have HF := Lib.hid hf
  clear hob bx2 hb2 hes hf hW2 hm1 bp bx hb1
  have hmm := make_mapP
  refine (callsIn_wide (n := 9)).1 ?_
  refine callsIn_of_wp_marks Try.func45 rfl trivial ?_ rfl
  simp only [Try.ntmps45, List.size_toArray, List.length_cons, List.length_nil, Nat.reduceAdd, Nat.reduceSub, Array.replicate_succ, Array.replicate_zero, List.push_toArray, List.append_toArray, List.nil_append, List.cons_append]
  gi_wp2
  gi_region
  all_goals gi_wp2_with (refine ⟨trivial, ?_⟩; gi_at_call 47; refine (callsIn_wide.2 (back_any _ _ _ _)).mono ?_; rintro e w' ⟨rfl, rfl⟩)
  obtain ⟨W0, hW0⟩ : ∃ W0, (W2.alloc (.cells #[.slice ao es.length cap] 82)).drew = W0 := ⟨_, rfl⟩
  have k0 : W0.heap.size = w.heap.size + 4 := by rw [← hW0]; simp [k2]
  have b02 : Below W2.heap.size W2 W0 := by rw [← hW0]; exact ((Below.refl _ W2).alloc (Nat.le_refl _) _).drew
  have bn : Blk W0 (w.heap.size + 3) #[.slice ao es.length cap] 82 := by
    have := Blk.new W2 #[.slice ao es.length cap] 82
    rw [k2] at this
    rw [← hW0]
    exact this.drew
  have o0 := HOB.out.call b02
  have x0 := HBX.out.call b02
  have l0 : Below w.heap.size w W0 := HB2.out.trans (b02.mono (by omega))
  rw [hW0]
  clear hlk1 hlk2 e20 e21 d20 d21 f20 f21 c20 c21 c0 hmm hW1 hW0 k1 b02
  obtain ⟨fs, hfs⟩ := fe_list es HF.out
  have hfl : fs.length = es.length := by rw [← hfs]; simp
  have hFSx := Lib.hid hfs
  have bn' : Blk W0 (w.heap.size + 3) #[.slice ao fs.length cap] 82 := by rw [hfl]; exact bn
  refine wpIn_rangeFunc_ownH (F := Fence.wide) rfl (by omega) (gf := 48) (lb := #[.pointer (some ⟨w.heap.size + 3, 0, none⟩)]) rfl trivial (enters_of Try.func48 (by kernel_rfl) rfl)
    (back_stops Fence.wide (9 - 1) trivial rfl (by omega) (w.heap.size + 3) w.heap.size ao cap fs (by omega) W0 (by omega) bn' (by rw [hfs]; exact HES.out.below l0)) (fun h k => h.trans k) (kept_b (by omega) (by omega)) (Below.refl _ _) (fun _ => rfl)
    (fun pre W => ∃ ns, CollInv w (w.heap.size + 1) w.heap.size (w.heap.size + 2) W0.heap.size pre ns W) (fun _ _ _ => False)
    (coll_own _ _ _ _ _ _ (by omega) (by omega)) (fun _ _ _ _ _ hs _ _ => hs)
    ⟨[], o0, rfl, x0, by simp [blks], l0, Nat.le_refl _, Chain.nil⟩
    (fun x a' W => ∃ Bx, Blk W Bx (ecs x.2.1) 125 ∧ a' = { tmps := #[.slice ao es.length cap, undef, .pointer none, .pointer (some ⟨w.heap.size + 1 + 1, 0, none⟩), undef, .pointer (some ⟨Bx, 0, none⟩), .slice ao es.length cap, .int .i64 es.length, .map (some w.heap.size), .agg (hcs nilP nilP w.heap.size), ptr (w.heap.size + 1), .pointer (some ⟨w.heap.size + 1, 0, none⟩), .pointer (some ⟨w.heap.size + 1, 0, none⟩), .pointer (some ⟨w.heap.size + 1, 0, none⟩), .pointer (some ⟨w.heap.size + 1, 0, none⟩), .pointer (some ⟨w.heap.size + 1, 0, none⟩), .pointer (some ⟨w.heap.size + 1, 0, none⟩), .pointer (some ⟨w.heap.size + 1, 0, none⟩), .pointer (some ⟨w.heap.size + 1, 0, none⟩), .pointer (some ⟨w.heap.size + 1, 0, none⟩), .pointer (some ⟨w.heap.size + 1, 0, none⟩), .pointer (some ⟨w.heap.size + 1, 20, none⟩), .pointer (some ⟨w.heap.size + 1, 0, none⟩), .pointer (some ⟨w.heap.size + 1, 0, none⟩), .pointer (some ⟨w.heap.size + 1, 21, none⟩), .slice ao es.length cap, .func (.func 48) #[] #[.pointer (some ⟨w.heap.size + 3, 0, none⟩)], .int .i64 x.1, .agg (ecs x.2.1), undef, undef, undef, undef, undef, undef, undef], defers := [] })
    (fun x a' _ X Y row hs hg hr => by obtain ⟨Bx, h1, h2⟩ := hs; exact ⟨Bx, h1.kept hg (fun r e => (hr r e).2), h2⟩)
    ?assign ?body ?done ?stop
  case assign =>
    clear bn bn' o0 x0 l0
    rintro l pre x W K ⟨ns, hi⟩ hK
    gi_wp2
    exact hK _ _ ((KeepsOthers.alloc _ _).from _) ⟨(Below.refl _ W).alloc hi.below.size _, heap_alloc_old _ _ (by have := hi.size; omega)⟩ ⟨ns, hi.obj.old _, hi.es, hi.box.old _, hi.low, hi.below.alloc hi.below.size _, by have := hi.size; simp; omega, hi.chain⟩ ⟨W.heap.size, Blk.new W _ _, rfl⟩
  case body =>
    clear bn bn' o0 x0 l0
    rintro l pre x a' W hl hr ⟨ns, hi⟩ ⟨Bx, bX, rfl⟩ hlt
    rw [← hFSx.out] at hzero
    exact absurd hlt (by rw [List.map_eq_nil_iff.1 hzero.out]; simp)
  case done =>
    clear bn bn' o0 x0 l0
    rintro D ys W hD rfl ⟨ns, hi⟩ hK
    have c0 : W.cell? ⟨w.heap.size + 2, 0, none⟩ = some (.pointer (some ⟨w.heap.size + 1, 0, none⟩)) := hi.box.cell 0
    have hend := coll_end (fs := fs) (es := es) (o' := .deferred none) (D := D) hi hFSx hD hK (by omega) (by omega)
    gi_wp2
    refine ⟨by simp, .inl ⟨_, _, rfl, run_takeDeferred hK, ?_⟩⟩
    refine ⟨_, results_tmp rfl _ _ _, ?_⟩
    simp only [] at hend ⊢
    exact hend
  case stop =>
    rintro D c pre W _ _ h _
    exact h.elim
theorem collect_nil (w : World) : Calls Try.prog 45 #[.slice none 0 0] w (CollPost w []) := collect_zero none 0 [] w rfl (by simp) (fun j e h => by simp at h) (fun e h => by simp at h)
end Go.Proofs.Ytblbeinnfbohbaa.Hp

/-
  AppendSeq over a ring; entries.
-/
namespace Go.Proofs.Ytblbeinnfbohbaa.Hp
open Go Go.RowKit Go.Maps Go.Shelf Go.Proofs.Ytblbeinnfbohbaa.Keys
open Go.Proofs.Ytblbeinnfbohbaa.Des (Vl Ds zeroV zeroD dcs dcs_size dcs_one)
open Go.Proofs.Ytblbeinnfbohbaa.Arrs (En ecs ecs_0 ecs_1 ecs_10 ecs_size ecs_list ecs_one ecs_one')
set_option linter.unusedVariables false
set_option linter.unusedSimpArgs false

/-! ### Lists of properties -/
def cellsE (l : List En) : List Value := l.flatMap fun e => (ecs e).toList
theorem cellsE_append (a b : List En) : cellsE (a ++ b) = cellsE a ++ cellsE b := by simp [cellsE]
theorem cellsE_one (e : En) : cellsE [e] = (ecs e).toList := by simp [cellsE]
theorem cellsE_length (l : List En) : (cellsE l).length = l.length * 20 := by
  induction l with
  | nil => rfl
  | cons a r ih =>
    have e : cellsE (a :: r) = (ecs a).toList ++ cellsE r := rfl
    rw [e, List.length_append, ecs_list, ih, List.length_cons]
    omega
theorem cellsE_at (l : List En) : ∀ (j : Nat) (e : En), l[j]? = some e → ∀ k v, (ecs e).toList[k]? = some v → (cellsE l)[j * 20 + k]? = some v := by
  induction l with
  | nil => intro j e h; simp at h
  | cons a r ih =>
    intro j e h k v hv
    have e1 : cellsE (a :: r) = (ecs a).toList ++ cellsE r := rfl
    have hk : k < 20 := by have := (List.getElem?_eq_some_iff.1 hv).1; rw [ecs_list] at this; exact this
    cases j with
    | zero =>
      simp only [List.getElem?_cons_zero, Option.some.injEq] at h
      subst h
      rw [e1, List.getElem?_append_left (by rw [ecs_list]; omega), Nat.zero_mul, Nat.zero_add]
      exact hv
    | succ j =>
      rw [e1, List.getElem?_append_right (by rw [ecs_list]; omega), ecs_list, show (j + 1) * 20 + k - 20 = j * 20 + k by omega]
      exact ih j e (by simpa using h) k v hv
theorem esAt_own {w : World} {base : Nat} {ao : Option Addr} {cp : Nat} {es : List En} (h : w.ownsRow base 125 20 (.slice ao es.length cp) es.length (cellsE es)) : EsAt w.heap.size ao es w := fun j e he => by
  have hj : j < es.length := (List.getElem?_eq_some_iff.1 he).1
  rcases h.2 with ⟨_, hn⟩ | ⟨g, cap, cur, hv, hb, hg, _⟩
  · omega
  · simp only [Value.slice.injEq] at hv
    obtain ⟨rfl, -, rfl⟩ := hv
    refine ⟨g, 0, rfl, (Array.getElem?_eq_some_iff.1 hg).1, fun k v hv => ?_⟩
    have hk : k < 20 := by have := (List.getElem?_eq_some_iff.1 hv).1; rw [ecs_list] at this; exact this
    rw [show (0 + j * 20 + k) = j * 20 + k by omega, h.cellAt _ (by omega)]
    exact cellsE_at es j e he k v hv
def BsE (ps : Array (Nat × Value)) : Sem Value := Instr.buildSlice 82 1 ps
theorem to_bsE (ps : Array (Nat × Value)) : Instr.buildSlice 82 1 ps = BsE ps := (rfl)
theorem run_bsE (w : World) (e : En) : (BsE #[(0, .agg (ecs e))]).run Try.prog w = .ok (.slice (some ⟨w.heap.size, 0, none⟩) 1 1) (w.alloc (.cells (ecs e) 125)) := by
  obtain ⟨i, hi, hz, hs, hb⟩ := info_parts infoE
  exact run_buildSlice w 82 125 1 _ (ecs e) i (.agg (ecs zeroE)) Try.underlying82 hi hz (by rw [hs]; decide) (by rw [hs]; decide) (by rw [hs]; have h := Go.Great.fill_whole (s := 20) (by decide) [.agg (ecs e)] ((Array.range (1 * 20)).map ((Value.agg (ecs zeroE)).cells[· % (Value.agg (ecs zeroE)).cells.size]!)) (fun v hv => by rw [List.mem_singleton.1 hv]; rfl) (by simp); simpa [Value.cells] using h)
theorem new_cells (w : World) (e : En) (t : TypeId) : ∀ j u, (ecs e).toList[j]? = some u → (w.alloc (.cells (ecs e) t)).cell? ((⟨w.heap.size, 0, none⟩ : Addr).add j) = some u := fun j u hu => by
  have h := enAt_new w e t j u hu
  rw [Addr.add_mid]
  exact h
theorem zeroE_cells : (Value.agg (ecs zeroE)).cells.size = 20 := rfl
def mkE (c : Nat) : Array Value := madeCells (ecs zeroE) (c * 20)
theorem run_mkE (c : Nat) (hc : c ≤ 1000000) (w : World) : (Instr.makeSlice 82 (.int .i64 0) (.int .i64 c)).run Try.prog w = .ok (.slice (some ⟨w.heap.size, 0, none⟩) 0 c) (w.alloc (.cells (mkE c) 125)) := by
  obtain ⟨i, hi, hz, hs, hb⟩ := info_parts infoE
  have h := run_make (P := Try.prog) w 82 125 i (.agg (ecs zeroE)) Try.underlying82 hi hz .i64 .i64 0 c (by omega) (by omega) (by rw [hb]; omega) (by omega)
  rw [hs] at h
  exact h
theorem mkE_own (w : World) (c base : Nat) (hc : c ≤ 1000000) (hb : base ≤ w.heap.size) : (w.alloc (.cells (mkE c) 125)).ownsRow base 125 20 (.slice (some ⟨w.heap.size, 0, none⟩) 0 c) 0 [] :=
  World.ownsRow_made w (mkE c) c hb (by unfold maxLen; omega) (by simp [mkE, madeCells])

section

attribute [local go_sem] Oper.semAt_some

attribute [local go_sem ↓] ldE bxE alE stE to_bsE

attribute [local irreducible] ecs ncs hcs

attribute [local go_sem] run_bx run_alE run_stE run_bsE ecs_0 ecs_1

/-- Between two rounds of AppendSeq. -/
structure SeqInv (w0 : World) (n₀ Bs Bn pb : Nat) (pre : List En) (v : Value) (W : World) : Prop where
  box : Blk W Bs #[v] 82
  row : W.ownsRow n₀ 125 20 v pre.length (cellsE pre)
  it : Blk W Bn #[ptr pb] 100
  below : Below n₀ w0 W
theorem own_kept {w w' : World} {base : Nat} {e : TypeId} {size : Nat} {v : Value} {k : Nat} {xs : List Value} {row : Option Nat} (h : w.ownsRow base e size v k xs) (hg : w.grownBy w' row) (hr : ∀ r, row = some r → ∃ o : Obj, w.heap[r]? = some o ∧ o.isCells = false) : w'.ownsRow base e size v k xs := by
  refine h.kept hg ?_
  rcases h.2 with ⟨rfl, _⟩ | ⟨g, cap, cur, rfl, _, hgb, _⟩
  · exact .inl rfl
  · refine .inr fun e' => ?_
    obtain ⟨o, ho, hc⟩ := hr g (by simpa [Value.ownBlock] using e'.symm)
    rw [hgb] at ho; cases ho; cases hc
theorem seq_own (w0 : World) (n₀ Bs Bn pb B : Nat) (hn : n₀ ≤ w0.heap.size) (hB : n₀ ≤ B) : OwnFrom B (fun pre W => ∃ v, SeqInv w0 n₀ Bs Bn pb pre v W) := by
  rintro pre W W' row ⟨v, ⟨h1, h2, h3, h4⟩⟩ hg hr
  have hr2 := fun r e => (hr r e).2
  exact ⟨v, h1.kept hg hr2, own_kept h2 hg hr2, h3.kept hg hr2, h4.grown hg (Nat.le_trans hn h4.size) (fun k e => Nat.le_trans hB (hr k e).1)⟩
theorem SeqInv.step {w0 W w1 : World} {n₀ Bs Bn pb B0 : Nat} {pre : List En} {v v' : Value} {x : En} {tmp : Obj} (h : SeqInv w0 n₀ Bs Bn pb pre v W) (hn : n₀ ≤ w0.heap.size) (hB : n₀ ≤ Bs) (hne : Bn ≠ Bs)
    (hown' : w1.ownsRow n₀ 125 20 v' (pre.length + 1) (cellsE pre ++ (ecs x).toList)) (hgrow : (W.alloc tmp).grownBy w1 v.ownBlock) :
    KeepsFrom B0 W (w1.setCell ⟨Bs, 0, none⟩ v') ∧ Kept n₀ Bn W (w1.setCell ⟨Bs, 0, none⟩ v') ∧ SeqInv w0 n₀ Bs Bn pb (pre ++ [x]) v' (w1.setCell ⟨Bs, 0, none⟩ v') := by
  obtain ⟨h1, h2, h3, h4⟩ := h
  have hsz : n₀ ≤ W.heap.size := Nat.le_trans hn h4.size
  obtain ⟨hv1, hv2, hr2, hk2, hb2⟩ := Boxed.appended (t := 82) (tmp := tmp) h1 (by decide) h2 hsz hB hown' hgrow
  have hbn : Blk (w1.setCell ⟨Bs, 0, none⟩ v') Bn #[ptr pb] 100 := by
    have a1 : Blk w1 Bn #[ptr pb] 100 := Boxed.kept (Boxed.alloc (t := 100) h3 tmp) hgrow (Boxed.not_row (t := 100) h3 (by decide) h2)
    exact a1.other _ _ hne
  refine ⟨hk2.from _, ⟨hb2, hbn.trans (Eq.symm h3)⟩, hv2, ?_, hbn, h4.trans hb2⟩
  rw [List.length_append, cellsE_append, cellsE_one]
  exact hr2
/-- How AppendSeq ends. -/
def SeqPost (w : World) (n₀ : Nat) (es : List En) (y : Ending) (w' : World) : Prop := ∃ v, y = .returned v ∧ w'.ownsRow n₀ 125 20 v es.length (cellsE es) ∧ Below n₀ w w'
end

end Go.Proofs.Ytblbeinnfbohbaa.Hp

/-
  entries: the list of a ring's properties.
-/
namespace Go.Proofs.Ytblbeinnfbohbaa.Hp
open Go Go.RowKit Go.Maps Go.Shelf Go.Proofs.Ytblbeinnfbohbaa.Keys
open Go.Proofs.Ytblbeinnfbohbaa.Des (Vl Ds zeroV zeroD dcs dcs_size dcs_one)
open Go.Proofs.Ytblbeinnfbohbaa.Arrs (En ecs ecs_0 ecs_1 ecs_10 ecs_size ecs_list ecs_one ecs_one')
set_option linter.unusedVariables false
set_option linter.unusedSimpArgs false
attribute [local go_sem ↓] ldE bxE alE stE to_bsE

attribute [local irreducible] ecs ncs hcs

attribute [local go_sem] run_bx run_alE run_stE run_bsE ecs_0 ecs_1

theorem MapIs.length {w : World} {m n : Nat} {f : KV → Option Nat} (h : MapIs w m n f) : ∃ c : Nat, c ≤ n ∧ ∀ (w' : World) (ty : TypeId), w'.heap[m]? = w.heap[m]? → (Builtin.len_ #[128] ty #[.map (some m)]).run Try.prog w' = .ok (.int .i64 c) w' := by
  obtain ⟨D, hd, hf⟩ := h
  refine ⟨Maps.size D, hd.size_le, fun w' ty he => ?_⟩
  have hd' : w'.ownsMap Try.prog 91 Rp m n D := by
    obtain ⟨es, c, ho, hr⟩ := hd
    exact ⟨es, c, he.trans ho, hr⟩
  exact hd'.len Try.underlying128 ty
end Go.Proofs.Ytblbeinnfbohbaa.Hp

/-
  The heap's functions, as far as they do not look into a ring.
-/
namespace Go.Proofs.Ytblbeinnfbohbaa.Hp
open Go Go.RowKit Go.Maps Go.Shelf Go.Proofs.Ytblbeinnfbohbaa.Keys
open Go.Proofs.Ytblbeinnfbohbaa.Des (Vl Ds zeroV zeroD dcs dcs_size dcs_one)
open Go.Proofs.Ytblbeinnfbohbaa.Arrs (En ecs ecs_0 ecs_1 ecs_10 ecs_size ecs_list ecs_one ecs_one')
set_option linter.unusedVariables false
set_option linter.unusedSimpArgs false
attribute [local go_sem ↓] ldE ldT bxT bxO bdO alE alT stE stT

attribute [local irreducible] ecs ncs hcs tcs ocs

attribute [local go_sem] run_bx run_alE run_alT run_bdO tcs_0 tcs_5 tcs_20 tcs_set5 tcs_set20 ocs_24

/-- A heap's own cells. -/
abbrev hp (room : Int) (objs : Value) (sy : Int) : Array Value := #[.int .i64 room, objs, .int .i64 sy]
theorem new_any (n : Int) (w : World) : Calls Try.prog 12 #[.int .i64 n] w fun e w' => e = .returned (.pointer (some ⟨w.heap.size, 0, none⟩)) ∧ w' = w.alloc (.cells (hp n nilS 0) 75) := by
  go_enter Try.func12, Try.ntmps12
  go_wp2
  go_ret
  exact ⟨rfl, rfl⟩
theorem wrap_one {s : Int} (h0 : 0 ≤ s) (h1 : s ≤ 1000000) : wrap64 (s + 1) = s + 1 := by unfold wrap64; omega
theorem object_none (hb : Nat) (room : Int) (a : Option Addr) (n c : Nat) (sy o : Int) (w : World) (h : Blk w hb (hp room (.slice a n c) sy) 75) (ho : o < 0 ∨ (n : Int) ≤ o) :
    Calls Try.prog 36 #[ptr hb, .int .i64 o] w fun e w' => e = .returned (.pointer none) ∧ w' = w := by
  have c1 : w.cell? ⟨hb, 1, none⟩ = some (.slice a n c) := h.cell 1
  by_cases h0 : o < 0
  · go_enter Try.func36, Try.ntmps36
    go_wp2
    go_ret
    exact ⟨rfl, rfl⟩
  · have h1 : (n : Int) ≤ o := by omega
    have h0' : 0 ≤ o := by omega
    clear h0 ho
    go_enter Try.func36, Try.ntmps36
    go_wp2
    go_ret
    exact ⟨rfl, rfl⟩
theorem object_some (hb rb ob : Nat) (room : Int) (n c o : Nat) (sy : Int) (w : World) (h : Blk w hb (hp room (.slice (some ⟨rb, 0, none⟩) n c) sy) 75) (ho : o < n) (hc : w.cell? ⟨rb, o, none⟩ = some (ptr ob)) :
    Calls Try.prog 36 #[ptr hb, .int .i64 o] w fun e w' => e = .returned (ptr ob) ∧ w' = w := by
  have c1 : w.cell? ⟨hb, 1, none⟩ = some (.slice (some ⟨rb, 0, none⟩) n c) := h.cell 1
  have h1 : (o : Int) < n := by omega
  have h2 : decide ((n : Int) ≤ o) = false := by simp; omega
  have h3 : decide ((o : Int) < 0) = false := by simp
  go_enter Try.func36, Try.ntmps36
  go_wp2
  go_ret
  exact ⟨rfl, rfl⟩
theorem run_eqS (d : Nat) (a : Option Addr) (n c : Nat) (w : World) : (Op.equalIn (d + 1) 83 (.slice a n c) (.slice none 0 0)).run Try.prog w = .ok a.isNone w := by
  cases a <;> simp [Op.equalIn, run_underlying Try.underlying83]
theorem run_eqlS (a : Option Addr) (n c : Nat) (w : World) : (binOp .eql 83 (.slice a n c) (.slice none 0 0)).run Try.prog w = .ok (.bool a.isNone) w := by
  simp only [binOp]
  simp [Op.equal, Op.maxDepth, run_eqS 9999]
theorem clone_nil (w : World) : Calls Try.prog 46 #[.slice none 0 0] w fun e w' => e = .returned (.slice none 0 0) ∧ w' = w := by
  have h0 := run_eqlS none 0 0 w
  go_enter Try.func46, Try.ntmps46
  go_wp2
  go_ret
  exact ⟨rfl, rfl⟩
end Go.Proofs.Ytblbeinnfbohbaa.Hp

/-
  store: an object is laid into memory.
-/
namespace Go.Proofs.Ytblbeinnfbohbaa.Hp
open Go Go.RowKit Go.Maps Go.Shelf Go.Proofs.Ytblbeinnfbohbaa.Keys
open Go.Proofs.Ytblbeinnfbohbaa.Des (Vl Ds zeroV zeroD dcs dcs_size dcs_one)
open Go.Proofs.Ytblbeinnfbohbaa.Arrs (En ecs ecs_0 ecs_1 ecs_10 ecs_size ecs_list ecs_one ecs_one')
set_option linter.unusedVariables false
set_option linter.unusedSimpArgs false
attribute [local go_sem ↓] ldE ldT bxT bxO bdO alE alT stE stT

attribute [local irreducible] ecs ncs hcs tcs ocs

attribute [local go_sem] run_bx run_alE run_alT run_bdO tcs_0 tcs_5 tcs_20 tcs_set5 tcs_set20 ocs_24

def cellsV (l : List Vl) : List Value := l.flatMap fun v => [.int .i64 v.k, .int .i64 v.n, .string v.s]
/-- How Clone ends. -/
def ClonePost (w : World) (vs : List Vl) (y : Ending) (w' : World) : Prop := ∃ a n c, y = .returned (.slice a n c) ∧ w'.ownsRow w.heap.size 32 3 (.slice a n c) vs.length (cellsV vs) ∧ Below w.heap.size w w'
theorem clone_nil' (w : World) : Calls Try.prog 46 #[.slice none 0 0] w (ClonePost w []) :=
  (clone_nil w).mono fun e w' ⟨h1, h2⟩ => by subst h1 h2; exact ⟨none, 0, 0, rfl, World.ownsRow_nil _ _ _ _, Below.refl _ _⟩
/-- An object lies in memory: its own part, its ring, its arguments. -/
structure ObjAt (w : World) (base ob pb mb n : Nat) (th : Th) (es : List En) (vs : List Vl) (ns : List Nd) : Prop where
  blk : Blk w ob (ocs th pb) 102
  props : th.props = .slice none 0 0
  args : ∃ a m c, th.args = .slice a m c
  obj : Obj1 w pb mb n ns
  es : ns.map (·.e) = es
  row : w.ownsRow base 32 3 th.args vs.length (cellsV vs)
  low : ∀ b ∈ blks pb ns, base ≤ b
  lowm : base ≤ mb
  lowo : base ≤ ob
  chain : Chain ns
/-- How store ends. -/
def StorePost (w : World) (th : Th) (es : List En) (vs : List Vl) (y : Ending) (w' : World) : Prop := ∃ ob pb mb ns a m c, y = .returned (ptr ob) ∧ ObjAt w' w.heap.size ob pb mb es.length { th with props := .slice none 0 0, args := .slice a m c } es vs ns ∧ Below w.heap.size w w'
theorem own_below {base : Nat} {e : TypeId} {size n : Nat} {v : Value} {xs : List Value} {w w' : World} (h : w.ownsRow base e size v n xs) (hb : Below w.heap.size w w') : w'.ownsRow base e size v n xs := by
  refine h.kept (row := none) ⟨hb.os, hb.tape, hb.output, hb.size, fun k hk _ => hb.block k hk⟩ ?_
  cases v.ownBlock <;> simp
theorem own_set {w : World} {base : Nat} {e t : TypeId} {size n b : Nat} {v : Value} {xs : List Value} {cs : Array Value} (h : w.ownsRow base e size v n xs) (hb : Blk w b cs t) (hte : t ≠ e) (i : Nat) (u : Value) : (w.setCell ⟨b, i, none⟩ u).ownsRow base e size v n xs := by
  refine ownsRow_setCell_other h ?_ u
  rcases h.2 with ⟨rfl, _⟩ | ⟨g, cap, cur, rfl, _, hgb, _⟩
  · simp [Value.ownBlock]
  · simp only [Value.ownBlock, ne_eq, Option.some.injEq]
    rintro rfl
    have := (show w.heap[g]? = _ from hb).symm.trans hgb
    simp at this
    exact hte this.2
theorem Obj1.set {w : World} {pb mb n b i : Nat} {ns : List Nd} {cs : Array Value} {t : TypeId} {u : Value} (h : Obj1 w pb mb n ns) (hb : Blk w b cs t) (h1 : t ≠ 127) (h2 : t ≠ 130) : Obj1 (w.setCell ⟨b, i, none⟩ u) pb mb n ns := by
  refine ⟨h.ring.same fun c hc => heap_setCell_other w _ c u (fun e => h.ring.notblk hb h1 h2 (by simp at e; exact e ▸ hc)), h.map.same (heap_setCell_other w _ mb u fun e => ?_)⟩
  obtain ⟨es, c, ho⟩ := h.map.obj
  simp at e
  rw [e, show w.heap[b]? = _ from hb] at ho
  cases ho
set_option maxRecDepth 100000 in
set_option maxHeartbeats 2000000 in
theorem store_any (th : Th) (pa : Option Addr) (pl pc : Nat) (aa : Option Addr) (al ac : Nat) (es : List En) (vs : List Vl) (w : World) (hp : th.props = .slice pa pl pc) (ha : th.args = .slice aa al ac)
    (hcoll : ∀ w', Below w.heap.size w w' → Calls Try.prog 45 #[.slice pa pl pc] w' (CollPost w' es)) (hcl : ∀ w', Below w.heap.size w w' → Calls Try.prog 46 #[.slice aa al ac] w' (ClonePost w' vs)) :
    Calls Try.prog 43 #[.agg (tcs th)] w (StorePost w th es vs) := by
  obtain ⟨w1, hw1⟩ : ∃ w1, w.alloc (.cells (tcs th) 85) = w1 := ⟨_, rfl⟩
  have k1 : w1.heap.size = w.heap.size + 1 := by rw [← hw1]; simp
  have b1 : Below w.heap.size w w1 := by rw [← hw1]; exact (Below.refl _ w).alloc (Nat.le_refl _) _
  have x1 : Blk w1 w.heap.size (tcs th) 85 := by rw [← hw1]; exact Blk.new w _ _
  have c5 : w1.cell? ⟨w.heap.size, 5, none⟩ = some (.slice pa pl pc) := by rw [x1.cell, tcs_5, hp]
  have h1 := hcoll w1 b1
  have HCL := Lib.hid hcl
  have B1 := Lib.hid b1
  have X1 := Lib.hid x1
  have HP := Lib.hid hp
  have HA := Lib.hid ha
  clear hcoll hcl b1 x1 hp ha
  go_enter Try.func43, Try.ntmps43
  go_wp2_with (go_at_call 45; refine h1.mono ?_; rintro e w2 ⟨pb, mb, ns, rfl, ho, hes, hlow, hmb, hb2, hch⟩; refine Hid.out ?_)
  refine Lib.hid ?_
  have x2 := X1.out.call hb2
  have b2 := B1.out.trans (hb2.mono (by omega))
  have d5 : w2.cell? ⟨w.heap.size, 5, none⟩ = some (.slice pa pl pc) := by rw [x2.cell, tcs_5, HP.out]
  have f5 := x2.frozen 5
  obtain ⟨w3, hw3⟩ : ∃ w3, w2.setCell ⟨w.heap.size, 5, none⟩ (.slice none 0 0) = w3 := ⟨_, rfl⟩
  have x3 : Blk w3 w.heap.size (tcs { th with props := .slice none 0 0 }) 85 := by
    have := x2.set 5 (.slice none 0 0)
    rw [tcs_set5, hw3] at this
    exact this
  have b3 : Below w.heap.size w w3 := by rw [← hw3]; exact b2.setCell (p := ⟨w.heap.size, 5, none⟩) (Nat.le_refl _) _
  have o3 : Obj1 w3 pb mb es.length ns := by rw [← hw3]; exact ho.set x2 (by decide) (by decide)
  have c20 : w3.cell? ⟨w.heap.size, 20, none⟩ = some (.slice aa al ac) := by rw [x3.cell, tcs_20]; exact congrArg some HA.out
  have h3 := HCL.out w3 b3
  have O3 := Lib.hid o3
  have B3 := Lib.hid b3
  have X3 := Lib.hid x3
  have HES := Lib.hid hes
  have HLOW := Lib.hid hlow
  clear c5 h1 hw1 ho hlow hb2 x2 b2 o3 b3 x3 hes
  go_wp2_with (go_at_call 46; refine h3.mono ?_; rintro e w4 ⟨a, m, c, rfl, hrow, hb4⟩; refine Hid.out ?_)
  refine Lib.hid ?_
  have x4 := X3.out.call hb4
  have sz3 := B3.out.size
  have b4 := B3.out.trans (hb4.mono sz3)
  have d20 : w4.cell? ⟨w.heap.size, 20, none⟩ = some (.slice aa al ac) := by rw [x4.cell, tcs_20]; exact congrArg some HA.out
  have f20 := x4.frozen 20
  obtain ⟨w5, hw5⟩ : ∃ w5, w4.setCell ⟨w.heap.size, 20, none⟩ (.slice a m c) = w5 := ⟨_, rfl⟩
  have x5 : Blk w5 w.heap.size (tcs { th with props := .slice none 0 0, args := .slice a m c }) 85 := by
    have := x4.set 20 (.slice a m c)
    rw [tcs_set20, hw5] at this
    exact this
  have b5 : Below w.heap.size w w5 := by rw [← hw5]; exact b4.setCell (p := ⟨w.heap.size, 20, none⟩) (Nat.le_refl _) _
  have o5 : Obj1 w5 pb mb es.length ns := by rw [← hw5]; exact (O3.out.call hb4).set x4 (by decide) (by decide)
  have r5 : w5.ownsRow w.heap.size 32 3 (.slice a m c) vs.length (cellsV vs) := by rw [← hw5]; exact own_set ((hrow.mono sz3)) x4 (by decide) _ _
  have lt := run_ldT x5
  obtain ⟨th', hth⟩ : ∃ th', th' = ({ th with props := .slice none 0 0, args := .slice a m c } : Th) := ⟨_, rfl⟩
  rw [← hth] at lt
  have hbd := run_bdO w5 th' pb
  have O5 := Lib.hid o5
  have B5 := Lib.hid b5
  have R5 := Lib.hid r5
  have HT := Lib.hid hth
  clear c20 h3 d5 f5 hw3 hrow hb4 x4 b4 o5 b5 x5 r5 hth
  go_wp2
  go_ret
  have sz5 := B5.out.size
  refine ⟨w5.heap.size, pb, mb, ns, a, m, c, rfl, ⟨?_, rfl, ⟨_, _, _, rfl⟩, O5.out.old _, HES.out, R5.out.alloc _, fun b hb => ?_, ?_, sz5, hch⟩, B5.out.alloc sz5 _⟩
  · have := Blk.new w5 (ocs th' pb) 102
    rw [← HT.out]
    exact this
  · have := HLOW.out b hb
    omega
  · omega
end Go.Proofs.Ytblbeinnfbohbaa.Hp
